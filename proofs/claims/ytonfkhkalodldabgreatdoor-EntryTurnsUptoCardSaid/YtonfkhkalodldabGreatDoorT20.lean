/-
  Texts of the schema layer and of those beneath it, joined: EntEx. Conditions stand at each contract.
-/
import Derived.Test.YtonfkhkalodldabGreatDoorT19
set_option linter.unusedVariables false
set_option linter.unusedSimpArgs false
set_option linter.unnecessarySimpa false

section
set_option maxRecDepth 100000
namespace Go.Proofs.YtonfkhkalodldabGreatDoor
open Go.RowKit Go.PlainAid
theorem kp_b {W V : World} {b : Nat} {x y : Value} (h : W.cell? ⟨b, 0, none⟩ = some x ∧ W.cell? ⟨b, 1, none⟩ = some y ∧ b < W.heap.size) (hb : Below W.heap.size W V) : V.cell? ⟨b, 0, none⟩ = some x ∧ V.cell? ⟨b, 1, none⟩ = some y ∧ b < V.heap.size :=
 ⟨cell_later hb h.1, cell_later hb h.2.1, Nat.lt_of_lt_of_le h.2.2 hb.size⟩
theorem kb_frz {W : World} {b : Nat} {c : Array Value} {t : TypeId} (h : Kb W b (.cells c t)) (i : Nat) : W.frozen? ⟨b, i, none⟩ = false := heap_frozen h
theorem al_ex {f : Nat} {w W : World} (h : Below f w W) (o : Obj) : ∃ Y, W.alloc o = Y := ⟨_, rfl⟩
theorem al_be {f : Nat} {w W Y : World} (h : Below f w W) {o : Obj} (e : W.alloc o = Y) : Below W.heap.size W Y := by rw [← e]; exact below_al _ _
theorem al_kb {f : Nat} {w W Y : World} (h : Below f w W) {o : Obj} (e : W.alloc o = Y) : Kb Y W.heap.size o := by rw [← e]; exact kbl_new _ _
theorem apply_x {W : World} {to : Option Addr} {tn tc : Nat} {co : Option Addr} {cn cc : Nat} {qo : Option Addr} {qc : Nat} {mo : Option Addr} (hs : SchV W (.agg #[.slice to tn tc, .slice co cn cc]) exT8 exC8) (hq : AttrsAt W qo 3 qc [(⟨#[99, 108, 97, 115, 115]⟩, [⟨#[112, 101, 114, 115, 111, 110]⟩]), (⟨#[99, 110]⟩, [⟨#[97, 110, 110]⟩]), (⟨#[110, 117, 109]⟩, [⟨#[55]⟩])]) (hm : MdsAt W mo 1 1 [⟨3, ⟨#[99, 110]⟩, [⟨#[66, 111, 98]⟩]⟩]) (ho : IntOk W) :
  Calls Tryz.prog 8 #[.agg #[.slice to tn tc, .slice co cn cc], .agg #[.string ⟨#[99, 110, 61, 97, 110, 110]⟩, .slice qo 3 qc], .slice mo 1 1] W fun e w' => ∃ ro rc, e = .returned (.tuple #[.agg #[.string ⟨#[99, 110, 61, 97, 110, 110]⟩, .slice ro 3 rc], .int .i64 0]) ∧ AttrsAt w' ro 3 rc [(⟨#[99, 108, 97, 115, 115]⟩, [⟨#[112, 101, 114, 115, 111, 110]⟩]), (⟨#[99, 110]⟩, [⟨#[98, 111, 98]⟩]), (⟨#[110, 117, 109]⟩, [⟨#[55]⟩])] ∧ Below W.heap.size W w' := by
 have h := apply_s to tn tc co cn cc exT8 exC8 ⟨#[99, 110, 61, 97, 110, 110]⟩ qo 3 qc [(⟨#[99, 108, 97, 115, 115]⟩, [⟨#[112, 101, 114, 115, 111, 110]⟩]), (⟨#[99, 110]⟩, [⟨#[97, 110, 110]⟩]), (⟨#[110, 117, 109]⟩, [⟨#[55]⟩])] mo 1 1 [⟨3, ⟨#[99, 110]⟩, [⟨#[66, 111, 98]⟩]⟩] W hs (by decide) hq (smallA_dec (by decide +kernel)) (fewV_dec (by decide +kernel)) hm
  ⟨fun m h => by rw [List.mem_singleton.1 h]; decide, fun m h => by rw [List.mem_singleton.1 h]; decide, fun m h => by rw [List.mem_singleton.1 h]; exact small_dec (by decide +kernel)⟩ ho
 unfold ApP at h
 rw [e8_st, e8_sc, e8_ae, e8_an, e8_al] at h
 refine h.mono ?_
 rintro e w' ⟨v, rfl, ⟨ro, rn, rc, rfl, hr⟩, hb⟩
 obtain rfl : 3 = rn := hr.1
 exact ⟨ro, rc, rfl, hr, hb⟩
theorem kp_set {W : World} {b b' : Nat} {x y u v : Value} (h : W.cell? ⟨b, 0, none⟩ = some x ∧ W.cell? ⟨b, 1, none⟩ = some y ∧ b < W.heap.size) (hne : b < b') : ((W.setCell ⟨b', 0, none⟩ u).setCell ⟨b', 1, none⟩ v).cell? ⟨b, 0, none⟩ = some x ∧ ((W.setCell ⟨b', 0, none⟩ u).setCell ⟨b', 1, none⟩ v).cell? ⟨b, 1, none⟩ = some y ∧ b < ((W.setCell ⟨b', 0, none⟩ u).setCell ⟨b', 1, none⟩ v).heap.size := by
 have e : ∀ i, ((W.setCell ⟨b', 0, none⟩ u).setCell ⟨b', 1, none⟩ v).cell? ⟨b, i, none⟩ = W.cell? ⟨b, i, none⟩ := fun i => (World.cell?_of_block (a := ⟨b, i, none⟩) (heap_setCell_other (W.setCell ⟨b', 0, none⟩ u) ⟨b', 1, none⟩ b v (Nat.ne_of_lt hne))).trans (World.cell?_of_block (a := ⟨b, i, none⟩) (heap_setCell_other W ⟨b', 0, none⟩ b u (Nat.ne_of_lt hne)))
 exact ⟨(e 0).trans h.1, (e 1).trans h.2.1, by simpa using h.2.2⟩
theorem ex_res {w W : World} {b : Nat} {t : TypeId} {ro : Option Addr} {rc : Nat} (hk : Kb W b (.cells #[.string ⟨#[]⟩, .slice none 0 0] t)) (h : AttrsAt W ro 3 rc [(⟨#[99, 108, 97, 115, 115]⟩, [⟨#[112, 101, 114, 115, 111, 110]⟩]), (⟨#[99, 110]⟩, [⟨#[98, 111, 98]⟩]), (⟨#[110, 117, 109]⟩, [⟨#[55]⟩])]) (hb : Below w.heap.size w W) (hf : w.heap.size ≤ b) :
  ∃ V, (W.setCell ⟨b, 0, none⟩ (.string ⟨#[99, 110, 61, 97, 110, 110]⟩)).setCell ⟨b, 1, none⟩ (.slice ro 3 rc) = V ∧ AttrsAt V ro 3 rc [(⟨#[99, 108, 97, 115, 115]⟩, [⟨#[112, 101, 114, 115, 111, 110]⟩]), (⟨#[99, 110]⟩, [⟨#[98, 111, 98]⟩]), (⟨#[110, 117, 109]⟩, [⟨#[55]⟩])] ∧ Below w.heap.size w V ∧ V.cell? ⟨b, 0, none⟩ = some (.string ⟨#[99, 110, 61, 97, 110, 110]⟩) ∧ V.cell? ⟨b, 1, none⟩ = some (.slice ro 3 rc) :=
 ⟨_, rfl, atts_res hk h (by decide +kernel) (by decide +kernel) _, (hb.setCell (p := ⟨b, 0, none⟩) hf _).setCell (p := ⟨b, 1, none⟩) hf _, heap_cell (Lib.heap_setCell_same (Lib.heap_setCell_same hk (.string ⟨#[99, 110, 61, 97, 110, 110]⟩)) _) rfl, heap_cell (Lib.heap_setCell_same (Lib.heap_setCell_same hk (.string ⟨#[99, 110, 61, 97, 110, 110]⟩)) _) rfl⟩
theorem atts0 (w : World) : AttrsAt w none 0 0 [] := ⟨rfl, Nat.le_refl _, by unfold maxLen; omega, fun h => absurd h (Nat.lt_irrefl _)⟩
set_option maxHeartbeats 16000000 in
theorem example_e (w : World) (hok : IntOk w) : Calls Tryz.prog 6 #[] w fun e w' => e = .returned (.bool true) ∧ Below w.heap.size w w' := by
 have HO := Lib.hid hok
 clear hok
 go_enter Tryz.func6, Tryz.ntmps6
 go_wp2_with fail
 refine (ann_e none 0 0 w).mono ?_
 rintro e w1 ⟨rfl, hb⟩
 have HB := Lib.hid hb
 clear hb
 have HC := Lib.hid (enCheck_s ⟨#[99, 110, 61, 97, 110, 110]⟩ none 0 0 [] w1 (by decide) (atts0 w1) (by intro a ha; cases ha) (by intro a ha; cases ha))
 rw [e8_c1] at HC
 go_wp2_with fail
 refine HC.out.mono ?_
 rintro e w2 ⟨rfl, hb⟩
 have HB := Lib.hid (HB.out.trans (hb.mono HB.out.size))
 clear hb HC
 have HC := Lib.hid (enCheck_s ⟨#[]⟩ none 0 0 [] w2 (by decide) (atts0 w2) (by intro a ha; cases ha) (by intro a ha; cases ha))
 rw [e8_c2] at HC
 go_wp2_with fail
 refine HC.out.mono ?_
 rintro e w3 ⟨rfl, hb⟩
 have HB := Lib.hid (HB.out.trans (hb.mono HB.out.size))
 clear hb HC
 have HA := Lib.hid (show AttrsAt ((w3.alloc (.cells #[.string ⟨#[97, 32, 98]⟩] 9)).alloc (.cells #[.string ⟨#[115, 110]⟩, .slice (some ⟨w3.heap.size, 0, none⟩) 1 1] 41)) (some ⟨w3.heap.size + 1, 0, none⟩) 1 1 [(⟨#[115, 110]⟩, [⟨#[97, 32, 98]⟩])] from ats1 w3 ⟨#[115, 110]⟩ [⟨#[97, 32, 98]⟩] (by decide))
 have HB := Lib.hid (HB.out.trans (show Below w.heap.size w3 ((w3.alloc (.cells #[.string ⟨#[97, 32, 98]⟩] 9)).alloc (.cells #[.string ⟨#[115, 110]⟩, .slice (some ⟨w3.heap.size, 0, none⟩) 1 1] 41)) from ((below_al w3 _).trans ((below_al _ _).mono (by simp))).mono HB.out.size))
 go_wp2_with fail
 obtain ⟨X1, hX1⟩ : ∃ x, ((w3.alloc (.cells #[.string ⟨#[97, 32, 98]⟩] 9)).alloc (.cells #[.string ⟨#[115, 110]⟩, .slice (some ⟨w3.heap.size, 0, none⟩) 1 1] 41)) = x := ⟨_, rfl⟩
 rw [hX1] at HA HB
 rw [hX1]
 obtain ⟨b1, hb1⟩ : ∃ x, w3.heap.size + 1 = x := ⟨_, rfl⟩
 rw [hb1] at HA
 rw [hb1]
 clear hX1 hb1
 refine (ann_e (some ⟨b1, 0, none⟩) 1 1 X1).mono ?_
 rintro e w4 ⟨rfl, hb⟩
 have HB := Lib.hid (HB.out.trans (hb.mono HB.out.size))
 have HT := Lib.hid (text_s ⟨#[99, 110, 61, 97, 110, 110]⟩ (some ⟨b1, 0, none⟩) 1 1 [(⟨#[115, 110]⟩, [⟨#[97, 32, 98]⟩])] w4 (by decide) (HA.out.below hb) (smallA_dec (by decide +kernel)) (fewV_dec (by decide +kernel)))
 rw [e8_t, e8_te] at HT
 clear hb HA
 go_wp2_with fail
 refine HT.out.mono ?_
 rintro e w5 ⟨rfl, hb⟩
 have HB := Lib.hid (HB.out.trans (hb.mono HB.out.size))
 clear hb HT
 have HA6 := Lib.hid (show AttrsAt ((w5.alloc (.cells #[.string ⟨#[49]⟩, .string ⟨#[50]⟩] 9)).alloc (.cells #[.string ⟨#[110, 117, 109]⟩, .slice (some ⟨w5.heap.size, 0, none⟩) 2 2] 41)) (some ⟨w5.heap.size + 1, 0, none⟩) 1 1 [(⟨#[110, 117, 109]⟩, [⟨#[49]⟩, ⟨#[50]⟩])] from ats1 w5 ⟨#[110, 117, 109]⟩ [⟨#[49]⟩, ⟨#[50]⟩] (by decide))
 have hbx := Lib.hid (show Below w5.heap.size w5 ((w5.alloc (.cells #[.string ⟨#[49]⟩, .string ⟨#[50]⟩] 9)).alloc (.cells #[.string ⟨#[110, 117, 109]⟩, .slice (some ⟨w5.heap.size, 0, none⟩) 2 2] 41)) from (below_al w5 _).trans ((below_al _ _).mono (by simp)))
 have HB := Lib.hid (HB.out.trans (hbx.out.mono HB.out.size))
 go_wp2_with fail
 obtain ⟨X6, hX⟩ : ∃ x, ((w5.alloc (.cells #[.string ⟨#[49]⟩, .string ⟨#[50]⟩] 9)).alloc (.cells #[.string ⟨#[110, 117, 109]⟩, .slice (some ⟨w5.heap.size, 0, none⟩) 2 2] 41)) = x := ⟨_, rfl⟩
 rw [hX] at HA6 HB hbx
 rw [hX]
 obtain ⟨b6, hb1⟩ : ∃ x, w5.heap.size + 1 = x := ⟨_, rfl⟩
 rw [hb1] at HA6
 rw [hb1]
 clear hX hb1
 clear hbx
 refine (ann_e (some ⟨b6, 0, none⟩) 1 1 X6).mono ?_
 rintro e w6 ⟨rfl, hb⟩
 have HB := Lib.hid (HB.out.trans (hb.mono HB.out.size))
 have HA6 := Lib.hid (HA6.out.below hb)
 clear hb
 have HA7 := Lib.hid (show AttrsAt ((w6.alloc (.cells #[.string ⟨#[50]⟩, .string ⟨#[51]⟩] 9)).alloc (.cells #[.string ⟨#[110, 117, 109]⟩, .slice (some ⟨w6.heap.size, 0, none⟩) 2 2] 41)) (some ⟨w6.heap.size + 1, 0, none⟩) 1 1 [(⟨#[110, 117, 109]⟩, [⟨#[50]⟩, ⟨#[51]⟩])] from ats1 w6 ⟨#[110, 117, 109]⟩ [⟨#[50]⟩, ⟨#[51]⟩] (by decide))
 have hbx := Lib.hid (show Below w6.heap.size w6 ((w6.alloc (.cells #[.string ⟨#[50]⟩, .string ⟨#[51]⟩] 9)).alloc (.cells #[.string ⟨#[110, 117, 109]⟩, .slice (some ⟨w6.heap.size, 0, none⟩) 2 2] 41)) from (below_al w6 _).trans ((below_al _ _).mono (by simp)))
 have HB := Lib.hid (HB.out.trans (hbx.out.mono HB.out.size))
 go_wp2_with fail
 obtain ⟨X7, hX⟩ : ∃ x, ((w6.alloc (.cells #[.string ⟨#[50]⟩, .string ⟨#[51]⟩] 9)).alloc (.cells #[.string ⟨#[110, 117, 109]⟩, .slice (some ⟨w6.heap.size, 0, none⟩) 2 2] 41)) = x := ⟨_, rfl⟩
 rw [hX] at HA7 HB hbx
 rw [hX]
 obtain ⟨b7, hb1⟩ : ∃ x, w6.heap.size + 1 = x := ⟨_, rfl⟩
 rw [hb1] at HA7
 rw [hb1]
 clear hX hb1
 have HA6 := Lib.hid (HA6.out.below hbx.out)
 clear hbx
 refine (ann_e (some ⟨b7, 0, none⟩) 1 1 X7).mono ?_
 rintro e w7 ⟨rfl, hb⟩
 have HB := Lib.hid (HB.out.trans (hb.mono HB.out.size))
 have HD := Lib.hid (diff_s ⟨#[99, 110, 61, 97, 110, 110]⟩ (some ⟨b6, 0, none⟩) 1 1 [(⟨#[110, 117, 109]⟩, [⟨#[49]⟩, ⟨#[50]⟩])] ⟨#[99, 110, 61, 97, 110, 110]⟩ (some ⟨b7, 0, none⟩) 1 1 [(⟨#[110, 117, 109]⟩, [⟨#[50]⟩, ⟨#[51]⟩])] w7 (by decide) (by decide) (HA6.out.below hb) (HA7.out.below hb) (smallA_dec (by decide +kernel)) (fewV_dec (by decide +kernel)) (smallA_dec (by decide +kernel)) (fewV_dec (by decide +kernel)))
 rw [e8_d] at HD
 clear hb HA6 HA7
 go_wp2_with fail
 refine HD.out.mono ?_
 intro e w8 hdv
 obtain ⟨v8, T8, rfl, hT8, hD8⟩ := hdv
 obtain ⟨mo, mc, rfl, hM8⟩ := hD8.mds
 have hl8 : T8.length = 2 := by have := congrArg List.length hT8; unfold mmds at this; rw [List.length_map] at this; exact this
 rw [hT8, hl8] at hM8
 rw [hl8]
 have HB := Lib.hid (HB.out.trans (hD8.low.mono HB.out.size))
 have HM2 := Lib.hid (mds2 w8 2 1 ⟨#[110, 117, 109]⟩ ⟨#[110, 117, 109]⟩ ⟨#[49]⟩ ⟨#[51]⟩)
 have hbx := Lib.hid (show Below w8.heap.size w8 (((w8.alloc (.cells #[.string ⟨#[49]⟩] 9)).alloc (.cells #[.string ⟨#[51]⟩] 9)).alloc (.cells #[.int .i64 2, .string ⟨#[110, 117, 109]⟩, .slice (some ⟨w8.heap.size, 0, none⟩) 1 1, .int .i64 1, .string ⟨#[110, 117, 109]⟩, .slice (some ⟨w8.heap.size + 1, 0, none⟩) 1 1] 57)) from ((below_al w8 _).trans ((below_al _ _).mono (by simp))).trans ((below_al _ _).mono (by simp; omega)))
 have HM8 := Lib.hid (hM8.below hbx.out)
 have HB := Lib.hid (HB.out.trans (hbx.out.mono HB.out.size))
 have HSM := Lib.hid (sameM8_s mo (some ⟨w8.heap.size + 1 + 1, 0, none⟩) 2 2 mc 2 _ _ _ HM8.out HM2.out)
 rw [decide_eq_true rfl] at HSM
 clear hM8 hD8 hT8 hl8 HD hbx HM2 HM8
 go_wp2_with fail
 refine HSM.out.mono ?_
 rintro e w9 ⟨rfl, hb⟩
 have HB := Lib.hid (HB.out.trans (hb.mono HB.out.size))
 clear hb HSM
 go_wp2_with fail
 refine (small_e w9).mono ?_
 rintro e w10 ⟨to, tn, tc, co, cn, cc, rfl, hs, hb⟩
 have HB := Lib.hid (HB.out.trans (hb.mono HB.out.size))
 have HA3 := Lib.hid (ats3 w10 ⟨#[67, 108, 97, 115, 115]⟩ ⟨#[99, 110]⟩ ⟨#[110, 117, 109]⟩ ⟨#[112, 101, 114, 115, 111, 110]⟩ ⟨#[65, 110, 110]⟩ ⟨#[55]⟩)
 have hbx := Lib.hid (show Below w10.heap.size w10 ((((w10.alloc (.cells #[.string ⟨#[112, 101, 114, 115, 111, 110]⟩] 9)).alloc (.cells #[.string ⟨#[65, 110, 110]⟩] 9)).alloc (.cells #[.string ⟨#[55]⟩] 9)).alloc (.cells #[.string ⟨#[67, 108, 97, 115, 115]⟩, .slice (some ⟨w10.heap.size, 0, none⟩) 1 1, .string ⟨#[99, 110]⟩, .slice (some ⟨w10.heap.size + 1, 0, none⟩) 1 1, .string ⟨#[110, 117, 109]⟩, .slice (some ⟨w10.heap.size + 1 + 1, 0, none⟩) 1 1] 41)) from (((below_al w10 _).trans ((below_al _ _).mono (by simp))).trans ((below_al _ _).mono (by simp; omega))).trans ((below_al _ _).mono (by simp; omega)))
 have HB := Lib.hid (HB.out.trans (hbx.out.mono HB.out.size))
 have HN := Lib.hid (enNormal_s to tn tc co cn cc exT8 exC8 ⟨#[67, 78, 61, 65, 110, 110]⟩ (some ⟨w10.heap.size + 1 + 1 + 1, 0, none⟩) 3 3 [(⟨#[67, 108, 97, 115, 115]⟩, [⟨#[112, 101, 114, 115, 111, 110]⟩]), (⟨#[99, 110]⟩, [⟨#[65, 110, 110]⟩]), (⟨#[110, 117, 109]⟩, [⟨#[55]⟩])] _ (hs.below hbx.out) (by decide) HA3.out (smallA_dec (by decide +kernel)) (fewV_dec (by decide +kernel)) (HO.out.below HB.out))
 unfold EnP at HN
 rw [e8_st, e8_sc, e8_ne, e8_nn, e8_nl] at HN
 clear hb hs hbx HA3
 go_wp2_with fail
 refine HN.out.mono ?_
 rintro e w11 ⟨v, rfl, ⟨qo, qn, qc, rfl, hq⟩, hb⟩
 have HB := Lib.hid (HB.out.trans (hb.mono HB.out.size))
 obtain rfl : 3 = qn := hq.1
 have HQ := Lib.hid hq
 clear hq hb HN
 go_wp2_with fail
 obtain ⟨X12, hX12⟩ : ∃ x, w11.alloc (.cells #[.string ⟨#[99, 110, 61, 97, 110, 110]⟩, .slice qo 3 qc] 28) = x := ⟨_, rfl⟩
 have hX := Lib.hid (show Below w11.heap.size w11 X12 from by rw [← hX12]; exact below_al _ _)
 have hK5 : Kb X12 w11.heap.size (.cells #[.string ⟨#[99, 110, 61, 97, 110, 110]⟩, .slice qo 3 qc] 28) := by rw [← hX12]; exact kbl_new _ _
 have HB := Lib.hid ((HB.out.trans (hX.out.mono HB.out.size)).drew)
 have HQ := Lib.hid ((HQ.out.below hX.out).below (Below.refl _ X12).drew)
 have h5l : w11.heap.size < X12.drew.heap.size := hK5.big
 have y0 := hK5.cell (i := 0) rfl
 have y1 := hK5.cell (i := 1) rfl
 obtain ⟨b5, hb5⟩ : ∃ x, w11.heap.size = x := ⟨_, rfl⟩
 rw [hX12]
 rw [hb5] at y0 y1 h5l ⊢
 clear hX hX12 hK5 hb5
 refine wp_region_held_drew (S := fun W => W.cell? ⟨b5, 0, none⟩ = some (.string ⟨#[99, 110, 61, 97, 110, 110]⟩) ∧ W.cell? ⟨b5, 1, none⟩ = some (.slice qo 3 qc) ∧ b5 < W.heap.size) (by kernel_rfl) (⟨y0, y1, h5l⟩) (fun hS => ?_)
 obtain ⟨Z, hZ⟩ : ∃ x, X12.drew = x := ⟨_, rfl⟩
 rw [hZ] at hS HB HQ h5l ⊢
 have HL5 := Lib.hid h5l
 clear hZ y0 y1 h5l
 refine rgT 1 (some 77) ?_
 refine wpAnyH_ready (rs := [0, 2, 9]) (by kernel_rfl) (by simp) ?_
 refine AllReadyH.cons rfl (fun K hK => ?_) (AllReadyH.cons rfl (fun K hK => ?_) (AllReadyH.cons rfl (fun K hK => ?_) AllReadyH.nil))
 ·go_simp
  refine (small_e _).mono ?_
  rintro e w13 ⟨ko, kn, kc, mo', mn', mc', rfl, hs, hb⟩
  have HSc := Lib.hid hs
  have HQ := Lib.hid (HQ.out.below hb)
  have HL5 := Lib.hid (Nat.lt_of_lt_of_le HL5.out hb.size)
  have HB := Lib.hid (HB.out.trans (hb.mono HB.out.size))
  try have HKb := Lib.hid (HKb.out.step hb)
  try have HKm := Lib.hid (HKm.out.step hb)
  try have HRs := Lib.hid (HRs.out.step hb)
  clear hs
  go_wp2_with fail
  refine hK.out _ _ ?_ (fun hHeld => ?_)
  ·exact kp_b (by assumption) hb
  clear hK K
  try simp only [Act.put, lsA, lsZ, lsS]
  refine wpAnyH_ready (rs := [2, 9]) (by kernel_rfl) (by simp) ?_
  refine AllReadyH.cons rfl (fun K hK => ?_) (AllReadyH.cons rfl (fun K hK => ?_) AllReadyH.nil)
  ·go_simp
   refine hK.out _ _ ?_ (fun hHeld => ?_)
   ·exact kp_b (by assumption) (below_al _ _)
   clear hK K
   obtain ⟨Y2, hY⟩ := al_ex HB.out (.cells #[.string ⟨#[66, 111, 98]⟩] 9)
   have hb := al_be HB.out hY
   have HKb := Lib.hid (al_kb HB.out hY)
   rw [hY] at hHeld ⊢
   have HB := Lib.hid (HB.out.trans (hb.mono HB.out.size))
   have HL5 := Lib.hid (Nat.lt_of_lt_of_le HL5.out hb.size)
   try have HQ := Lib.hid (HQ.out.below hb)
   try have HSc := Lib.hid (HSc.out.below hb)
   try have HKm := Lib.hid (HKm.out.step hb)
   try have HRs := Lib.hid (HRs.out.step hb)
   try have HR := Lib.hid (HR.out.below hb)
   clear hb hY
   try simp only [Act.put, lsA, lsZ, lsS]
   refine rgT 3 (some 79) ?_
   refine wpAnyH_ready (rs := [4, 9]) (by kernel_rfl) (by simp) ?_
   refine AllReadyH.cons rfl (fun K hK => ?_) (AllReadyH.cons rfl (fun K hK => ?_) AllReadyH.nil)
   ·go_simp
    refine hK.out _ _ ?_ (fun hHeld => ?_)
    ·exact kp_b (by assumption) (below_al _ _)
    clear hK K
    obtain ⟨Y4, hY⟩ := al_ex HB.out (.cells #[.int .i64 3, .string ⟨#[99, 110]⟩, .slice (some ⟨_, 0, none⟩) 1 1] 57)
    have hb := al_be HB.out hY
    have HKm := Lib.hid (al_kb HB.out hY)
    rw [hY] at hHeld ⊢
    have HB := Lib.hid (HB.out.trans (hb.mono HB.out.size))
    have HL5 := Lib.hid (Nat.lt_of_lt_of_le HL5.out hb.size)
    try have HQ := Lib.hid (HQ.out.below hb)
    try have HSc := Lib.hid (HSc.out.below hb)
    try have HKb := Lib.hid (HKb.out.step hb)
    try have HRs := Lib.hid (HRs.out.step hb)
    try have HR := Lib.hid (HR.out.below hb)
    clear hb hY
    try simp only [Act.put, lsA, lsZ, lsS]
    refine wpAnyH_ready (rs := [5, 9]) (by kernel_rfl) (by simp) ?_
    refine AllReadyH.cons rfl (fun K hK => ?_) (AllReadyH.cons rfl (fun K hK => ?_) AllReadyH.nil)
    ·go_simp
     refine (apply_x HSc.out HQ.out (mds1 HKb.out HKm.out) (HO.out.below HB.out)).mono ?_
     rintro e w14 ⟨ro, rc, rfl, hr, hb⟩
     have HR := Lib.hid hr
     have HL5 := Lib.hid (Nat.lt_of_lt_of_le HL5.out hb.size)
     have HB := Lib.hid (HB.out.trans (hb.mono HB.out.size))
     try have HRs := Lib.hid (HRs.out.step hb)
     clear hr HQ
     try clear r0 r1 f0 f1
     try (have r0 := HRs.out.cell (i := 0) rfl)
     try (have r1 := HRs.out.cell (i := 1) rfl)
     try (have f0 := kb_frz HRs.out 0)
     try (have f1 := kb_frz HRs.out 1)
     go_wp2_with fail
     refine hK.out _ _ ?_ (fun hHeld => ?_)
     ·exact kp_b (by assumption) hb
     clear hK K
     try simp only [Act.put, lsA, lsZ, lsS]
     refine rgT 6 (some 75) ?_
     refine rgT 7 (some 82) ?_
     refine rgT 8 (some 83) ?_
     refine rgC 9 (fun K hK => ?_)
     go_simp
     refine hK.out _ _ ?_ (fun hHeld => ?_)
     ·exact kp_b (by assumption) (below_al _ _)
     clear hK K
     have HLR := Lib.hid HL5.out
     have HLf := Lib.hid HB.out.size
     obtain ⟨Y9, hY⟩ := al_ex HB.out (.cells #[.string ⟨#[]⟩, .slice none 0 0] 28)
     have hb := al_be HB.out hY
     have HRs := Lib.hid (al_kb HB.out hY)
     rw [hY] at hHeld ⊢
     have HB := Lib.hid (HB.out.trans (hb.mono HB.out.size))
     have HL5 := Lib.hid (Nat.lt_of_lt_of_le HL5.out hb.size)
     try have HQ := Lib.hid (HQ.out.below hb)
     try have HSc := Lib.hid (HSc.out.below hb)
     try have HKb := Lib.hid (HKb.out.step hb)
     try have HKm := Lib.hid (HKm.out.step hb)
     try have HR := Lib.hid (HR.out.below hb)
     clear hb hY
     try (have r0 := HRs.out.cell (i := 0) rfl)
     try (have r1 := HRs.out.cell (i := 1) rfl)
     try (have f0 := kb_frz HRs.out 0)
     try (have f1 := kb_frz HRs.out 1)
     try simp only [Act.put, lsA, lsZ, lsS]
     refine rgC 10 (fun K hK => ?_)
     go_simp
     refine hK.out _ _ ?_ (fun hHeld => ?_)
     ·exact kp_set (by assumption) HLR.out
     clear hK K
     try simp only [Act.put, lsA, lsZ, lsS]
     refine rgT 11 (some 2) ?_
     refine wpAnyH_done (by kernel_rfl) ?_ _
     obtain ⟨V, hV, hrv, hbv, q0, q1⟩ := ex_res HRs.out HR.out HB.out HLf.out
     rw [hV]
     have HBv := Lib.hid hbv
     obtain ⟨vb, voff, rfl, hvl, hvs⟩ := hrv.2.2.2 (by omega)
     obtain ⟨z0, zo, zn, zc, z1, hz⟩ := hvs 1 (by omega)
     obtain rfl : 1 = zn := hz.1
     have z2 : V.cell? ⟨vb, voff + 2 + 1, none⟩ = some (.slice zo 1 zc) := z1
     have z3 : V.cell? ⟨vb, voff + 3, none⟩ = some (.slice zo 1 zc) := z1
     have HZ := Lib.hid (show StrsAt V zo 1 zc [⟨#[98, 111, 98]⟩] from hz)
     have hbx := below_al V (.cells #[.string ⟨#[98, 111, 98]⟩] 9)
     have HSS := Lib.hid (sameS8_s zo (some ⟨V.heap.size, 0, none⟩) 1 1 zc 1 _ _ _ (HZ.out.below hbx) (strs_new V [⟨#[98, 111, 98]⟩] (by decide)))
     rw [decide_eq_true rfl] at HSS
     have HBv := Lib.hid (HBv.out.trans (hbx.mono HBv.out.size))
     clear hV hrv hbv hvl hvs hz z0 HR HRs HB HZ hbx z1
     try clear r0 r1 f0 f1
     go_wp2_with fail
     refine HSS.out.mono ?_
     rintro e w15 ⟨rfl, hb⟩
     have HBv := Lib.hid (HBv.out.trans (hb.mono HBv.out.size))
     clear hb HSS
     go_wp2_with fail
     go_ret
     exact ⟨rfl, HBv.out⟩
    ·go_simp
     refine hK.out _ _ ?_ (fun hHeld => ?_)
     ·exact kp_b (by assumption) (below_al _ _)
     clear hK K
     have HLR := Lib.hid HL5.out
     have HLf := Lib.hid HB.out.size
     obtain ⟨Y9, hY⟩ := al_ex HB.out (.cells #[.string ⟨#[]⟩, .slice none 0 0] 28)
     have hb := al_be HB.out hY
     have HRs := Lib.hid (al_kb HB.out hY)
     rw [hY] at hHeld ⊢
     have HB := Lib.hid (HB.out.trans (hb.mono HB.out.size))
     have HL5 := Lib.hid (Nat.lt_of_lt_of_le HL5.out hb.size)
     try have HQ := Lib.hid (HQ.out.below hb)
     try have HSc := Lib.hid (HSc.out.below hb)
     try have HKb := Lib.hid (HKb.out.step hb)
     try have HKm := Lib.hid (HKm.out.step hb)
     try have HR := Lib.hid (HR.out.below hb)
     clear hb hY
     try (have r0 := HRs.out.cell (i := 0) rfl)
     try (have r1 := HRs.out.cell (i := 1) rfl)
     try (have f0 := kb_frz HRs.out 0)
     try (have f1 := kb_frz HRs.out 1)
     try simp only [Act.put, lsA, lsZ, lsS]
     refine rgC 5 (fun K hK => ?_)
     go_simp
     refine (apply_x HSc.out HQ.out (mds1 HKb.out HKm.out) (HO.out.below HB.out)).mono ?_
     rintro e w14 ⟨ro, rc, rfl, hr, hb⟩
     have HR := Lib.hid hr
     have HL5 := Lib.hid (Nat.lt_of_lt_of_le HL5.out hb.size)
     have HB := Lib.hid (HB.out.trans (hb.mono HB.out.size))
     try have HRs := Lib.hid (HRs.out.step hb)
     clear hr HQ
     try clear r0 r1 f0 f1
     try (have r0 := HRs.out.cell (i := 0) rfl)
     try (have r1 := HRs.out.cell (i := 1) rfl)
     try (have f0 := kb_frz HRs.out 0)
     try (have f1 := kb_frz HRs.out 1)
     go_wp2_with fail
     refine hK.out _ _ ?_ (fun hHeld => ?_)
     ·exact kp_b (by assumption) hb
     clear hK K
     try simp only [Act.put, lsA, lsZ, lsS]
     refine rgT 6 (some 75) ?_
     refine rgT 7 (some 82) ?_
     refine rgT 8 (some 83) ?_
     refine rgC 10 (fun K hK => ?_)
     go_simp
     refine hK.out _ _ ?_ (fun hHeld => ?_)
     ·exact kp_set (by assumption) HLR.out
     clear hK K
     try simp only [Act.put, lsA, lsZ, lsS]
     refine rgT 11 (some 2) ?_
     refine wpAnyH_done (by kernel_rfl) ?_ _
     obtain ⟨V, hV, hrv, hbv, q0, q1⟩ := ex_res HRs.out HR.out HB.out HLf.out
     rw [hV]
     have HBv := Lib.hid hbv
     obtain ⟨vb, voff, rfl, hvl, hvs⟩ := hrv.2.2.2 (by omega)
     obtain ⟨z0, zo, zn, zc, z1, hz⟩ := hvs 1 (by omega)
     obtain rfl : 1 = zn := hz.1
     have z2 : V.cell? ⟨vb, voff + 2 + 1, none⟩ = some (.slice zo 1 zc) := z1
     have z3 : V.cell? ⟨vb, voff + 3, none⟩ = some (.slice zo 1 zc) := z1
     have HZ := Lib.hid (show StrsAt V zo 1 zc [⟨#[98, 111, 98]⟩] from hz)
     have hbx := below_al V (.cells #[.string ⟨#[98, 111, 98]⟩] 9)
     have HSS := Lib.hid (sameS8_s zo (some ⟨V.heap.size, 0, none⟩) 1 1 zc 1 _ _ _ (HZ.out.below hbx) (strs_new V [⟨#[98, 111, 98]⟩] (by decide)))
     rw [decide_eq_true rfl] at HSS
     have HBv := Lib.hid (HBv.out.trans (hbx.mono HBv.out.size))
     clear hV hrv hbv hvl hvs hz z0 HR HRs HB HZ hbx z1
     try clear r0 r1 f0 f1
     go_wp2_with fail
     refine HSS.out.mono ?_
     rintro e w15 ⟨rfl, hb⟩
     have HBv := Lib.hid (HBv.out.trans (hb.mono HBv.out.size))
     clear hb HSS
     go_wp2_with fail
     go_ret
     exact ⟨rfl, HBv.out⟩
   ·go_simp
    refine hK.out _ _ ?_ (fun hHeld => ?_)
    ·exact kp_b (by assumption) (below_al _ _)
    clear hK K
    have HLR := Lib.hid HL5.out
    have HLf := Lib.hid HB.out.size
    obtain ⟨Y9, hY⟩ := al_ex HB.out (.cells #[.string ⟨#[]⟩, .slice none 0 0] 28)
    have hb := al_be HB.out hY
    have HRs := Lib.hid (al_kb HB.out hY)
    rw [hY] at hHeld ⊢
    have HB := Lib.hid (HB.out.trans (hb.mono HB.out.size))
    have HL5 := Lib.hid (Nat.lt_of_lt_of_le HL5.out hb.size)
    try have HQ := Lib.hid (HQ.out.below hb)
    try have HSc := Lib.hid (HSc.out.below hb)
    try have HKb := Lib.hid (HKb.out.step hb)
    try have HKm := Lib.hid (HKm.out.step hb)
    try have HR := Lib.hid (HR.out.below hb)
    clear hb hY
    try (have r0 := HRs.out.cell (i := 0) rfl)
    try (have r1 := HRs.out.cell (i := 1) rfl)
    try (have f0 := kb_frz HRs.out 0)
    try (have f1 := kb_frz HRs.out 1)
    try simp only [Act.put, lsA, lsZ, lsS]
    refine rgC 4 (fun K hK => ?_)
    go_simp
    refine hK.out _ _ ?_ (fun hHeld => ?_)
    ·exact kp_b (by assumption) (below_al _ _)
    clear hK K
    obtain ⟨Y4, hY⟩ := al_ex HB.out (.cells #[.int .i64 3, .string ⟨#[99, 110]⟩, .slice (some ⟨_, 0, none⟩) 1 1] 57)
    have hb := al_be HB.out hY
    have HKm := Lib.hid (al_kb HB.out hY)
    rw [hY] at hHeld ⊢
    have HB := Lib.hid (HB.out.trans (hb.mono HB.out.size))
    have HL5 := Lib.hid (Nat.lt_of_lt_of_le HL5.out hb.size)
    try have HQ := Lib.hid (HQ.out.below hb)
    try have HSc := Lib.hid (HSc.out.below hb)
    try have HKb := Lib.hid (HKb.out.step hb)
    try have HRs := Lib.hid (HRs.out.step hb)
    try have HR := Lib.hid (HR.out.below hb)
    clear hb hY
    try simp only [Act.put, lsA, lsZ, lsS]
    refine rgC 5 (fun K hK => ?_)
    go_simp
    refine (apply_x HSc.out HQ.out (mds1 HKb.out HKm.out) (HO.out.below HB.out)).mono ?_
    rintro e w14 ⟨ro, rc, rfl, hr, hb⟩
    have HR := Lib.hid hr
    have HL5 := Lib.hid (Nat.lt_of_lt_of_le HL5.out hb.size)
    have HB := Lib.hid (HB.out.trans (hb.mono HB.out.size))
    try have HRs := Lib.hid (HRs.out.step hb)
    clear hr HQ
    try clear r0 r1 f0 f1
    try (have r0 := HRs.out.cell (i := 0) rfl)
    try (have r1 := HRs.out.cell (i := 1) rfl)
    try (have f0 := kb_frz HRs.out 0)
    try (have f1 := kb_frz HRs.out 1)
    go_wp2_with fail
    refine hK.out _ _ ?_ (fun hHeld => ?_)
    ·exact kp_b (by assumption) hb
    clear hK K
    try simp only [Act.put, lsA, lsZ, lsS]
    refine rgT 6 (some 75) ?_
    refine rgT 7 (some 82) ?_
    refine rgT 8 (some 83) ?_
    refine rgC 10 (fun K hK => ?_)
    go_simp
    refine hK.out _ _ ?_ (fun hHeld => ?_)
    ·exact kp_set (by assumption) HLR.out
    clear hK K
    try simp only [Act.put, lsA, lsZ, lsS]
    refine rgT 11 (some 2) ?_
    refine wpAnyH_done (by kernel_rfl) ?_ _
    obtain ⟨V, hV, hrv, hbv, q0, q1⟩ := ex_res HRs.out HR.out HB.out HLf.out
    rw [hV]
    have HBv := Lib.hid hbv
    obtain ⟨vb, voff, rfl, hvl, hvs⟩ := hrv.2.2.2 (by omega)
    obtain ⟨z0, zo, zn, zc, z1, hz⟩ := hvs 1 (by omega)
    obtain rfl : 1 = zn := hz.1
    have z2 : V.cell? ⟨vb, voff + 2 + 1, none⟩ = some (.slice zo 1 zc) := z1
    have z3 : V.cell? ⟨vb, voff + 3, none⟩ = some (.slice zo 1 zc) := z1
    have HZ := Lib.hid (show StrsAt V zo 1 zc [⟨#[98, 111, 98]⟩] from hz)
    have hbx := below_al V (.cells #[.string ⟨#[98, 111, 98]⟩] 9)
    have HSS := Lib.hid (sameS8_s zo (some ⟨V.heap.size, 0, none⟩) 1 1 zc 1 _ _ _ (HZ.out.below hbx) (strs_new V [⟨#[98, 111, 98]⟩] (by decide)))
    rw [decide_eq_true rfl] at HSS
    have HBv := Lib.hid (HBv.out.trans (hbx.mono HBv.out.size))
    clear hV hrv hbv hvl hvs hz z0 HR HRs HB HZ hbx z1
    try clear r0 r1 f0 f1
    go_wp2_with fail
    refine HSS.out.mono ?_
    rintro e w15 ⟨rfl, hb⟩
    have HBv := Lib.hid (HBv.out.trans (hb.mono HBv.out.size))
    clear hb HSS
    go_wp2_with fail
    go_ret
    exact ⟨rfl, HBv.out⟩
  ·go_simp
   refine hK.out _ _ ?_ (fun hHeld => ?_)
   ·exact kp_b (by assumption) (below_al _ _)
   clear hK K
   have HLR := Lib.hid HL5.out
   have HLf := Lib.hid HB.out.size
   obtain ⟨Y9, hY⟩ := al_ex HB.out (.cells #[.string ⟨#[]⟩, .slice none 0 0] 28)
   have hb := al_be HB.out hY
   have HRs := Lib.hid (al_kb HB.out hY)
   rw [hY] at hHeld ⊢
   have HB := Lib.hid (HB.out.trans (hb.mono HB.out.size))
   have HL5 := Lib.hid (Nat.lt_of_lt_of_le HL5.out hb.size)
   try have HQ := Lib.hid (HQ.out.below hb)
   try have HSc := Lib.hid (HSc.out.below hb)
   try have HKb := Lib.hid (HKb.out.step hb)
   try have HKm := Lib.hid (HKm.out.step hb)
   try have HR := Lib.hid (HR.out.below hb)
   clear hb hY
   try (have r0 := HRs.out.cell (i := 0) rfl)
   try (have r1 := HRs.out.cell (i := 1) rfl)
   try (have f0 := kb_frz HRs.out 0)
   try (have f1 := kb_frz HRs.out 1)
   try simp only [Act.put, lsA, lsZ, lsS]
   refine rgC 2 (fun K hK => ?_)
   go_simp
   refine hK.out _ _ ?_ (fun hHeld => ?_)
   ·exact kp_b (by assumption) (below_al _ _)
   clear hK K
   obtain ⟨Y2, hY⟩ := al_ex HB.out (.cells #[.string ⟨#[66, 111, 98]⟩] 9)
   have hb := al_be HB.out hY
   have HKb := Lib.hid (al_kb HB.out hY)
   rw [hY] at hHeld ⊢
   have HB := Lib.hid (HB.out.trans (hb.mono HB.out.size))
   have HL5 := Lib.hid (Nat.lt_of_lt_of_le HL5.out hb.size)
   try have HQ := Lib.hid (HQ.out.below hb)
   try have HSc := Lib.hid (HSc.out.below hb)
   try have HKm := Lib.hid (HKm.out.step hb)
   try have HRs := Lib.hid (HRs.out.step hb)
   try have HR := Lib.hid (HR.out.below hb)
   clear hb hY
   try simp only [Act.put, lsA, lsZ, lsS]
   refine rgT 3 (some 79) ?_
   refine rgC 4 (fun K hK => ?_)
   go_simp
   refine hK.out _ _ ?_ (fun hHeld => ?_)
   ·exact kp_b (by assumption) (below_al _ _)
   clear hK K
   obtain ⟨Y4, hY⟩ := al_ex HB.out (.cells #[.int .i64 3, .string ⟨#[99, 110]⟩, .slice (some ⟨_, 0, none⟩) 1 1] 57)
   have hb := al_be HB.out hY
   have HKm := Lib.hid (al_kb HB.out hY)
   rw [hY] at hHeld ⊢
   have HB := Lib.hid (HB.out.trans (hb.mono HB.out.size))
   have HL5 := Lib.hid (Nat.lt_of_lt_of_le HL5.out hb.size)
   try have HQ := Lib.hid (HQ.out.below hb)
   try have HSc := Lib.hid (HSc.out.below hb)
   try have HKb := Lib.hid (HKb.out.step hb)
   try have HRs := Lib.hid (HRs.out.step hb)
   try have HR := Lib.hid (HR.out.below hb)
   clear hb hY
   try simp only [Act.put, lsA, lsZ, lsS]
   refine rgC 5 (fun K hK => ?_)
   go_simp
   refine (apply_x HSc.out HQ.out (mds1 HKb.out HKm.out) (HO.out.below HB.out)).mono ?_
   rintro e w14 ⟨ro, rc, rfl, hr, hb⟩
   have HR := Lib.hid hr
   have HL5 := Lib.hid (Nat.lt_of_lt_of_le HL5.out hb.size)
   have HB := Lib.hid (HB.out.trans (hb.mono HB.out.size))
   try have HRs := Lib.hid (HRs.out.step hb)
   clear hr HQ
   try clear r0 r1 f0 f1
   try (have r0 := HRs.out.cell (i := 0) rfl)
   try (have r1 := HRs.out.cell (i := 1) rfl)
   try (have f0 := kb_frz HRs.out 0)
   try (have f1 := kb_frz HRs.out 1)
   go_wp2_with fail
   refine hK.out _ _ ?_ (fun hHeld => ?_)
   ·exact kp_b (by assumption) hb
   clear hK K
   try simp only [Act.put, lsA, lsZ, lsS]
   refine rgT 6 (some 75) ?_
   refine rgT 7 (some 82) ?_
   refine rgT 8 (some 83) ?_
   refine rgC 10 (fun K hK => ?_)
   go_simp
   refine hK.out _ _ ?_ (fun hHeld => ?_)
   ·exact kp_set (by assumption) HLR.out
   clear hK K
   try simp only [Act.put, lsA, lsZ, lsS]
   refine rgT 11 (some 2) ?_
   refine wpAnyH_done (by kernel_rfl) ?_ _
   obtain ⟨V, hV, hrv, hbv, q0, q1⟩ := ex_res HRs.out HR.out HB.out HLf.out
   rw [hV]
   have HBv := Lib.hid hbv
   obtain ⟨vb, voff, rfl, hvl, hvs⟩ := hrv.2.2.2 (by omega)
   obtain ⟨z0, zo, zn, zc, z1, hz⟩ := hvs 1 (by omega)
   obtain rfl : 1 = zn := hz.1
   have z2 : V.cell? ⟨vb, voff + 2 + 1, none⟩ = some (.slice zo 1 zc) := z1
   have z3 : V.cell? ⟨vb, voff + 3, none⟩ = some (.slice zo 1 zc) := z1
   have HZ := Lib.hid (show StrsAt V zo 1 zc [⟨#[98, 111, 98]⟩] from hz)
   have hbx := below_al V (.cells #[.string ⟨#[98, 111, 98]⟩] 9)
   have HSS := Lib.hid (sameS8_s zo (some ⟨V.heap.size, 0, none⟩) 1 1 zc 1 _ _ _ (HZ.out.below hbx) (strs_new V [⟨#[98, 111, 98]⟩] (by decide)))
   rw [decide_eq_true rfl] at HSS
   have HBv := Lib.hid (HBv.out.trans (hbx.mono HBv.out.size))
   clear hV hrv hbv hvl hvs hz z0 HR HRs HB HZ hbx z1
   try clear r0 r1 f0 f1
   go_wp2_with fail
   refine HSS.out.mono ?_
   rintro e w15 ⟨rfl, hb⟩
   have HBv := Lib.hid (HBv.out.trans (hb.mono HBv.out.size))
   clear hb HSS
   go_wp2_with fail
   go_ret
   exact ⟨rfl, HBv.out⟩
 ·go_simp
  refine hK.out _ _ ?_ (fun hHeld => ?_)
  ·exact kp_b (by assumption) (below_al _ _)
  clear hK K
  obtain ⟨Y2, hY⟩ := al_ex HB.out (.cells #[.string ⟨#[66, 111, 98]⟩] 9)
  have hb := al_be HB.out hY
  have HKb := Lib.hid (al_kb HB.out hY)
  rw [hY] at hHeld ⊢
  have HB := Lib.hid (HB.out.trans (hb.mono HB.out.size))
  have HL5 := Lib.hid (Nat.lt_of_lt_of_le HL5.out hb.size)
  try have HQ := Lib.hid (HQ.out.below hb)
  try have HSc := Lib.hid (HSc.out.below hb)
  try have HKm := Lib.hid (HKm.out.step hb)
  try have HRs := Lib.hid (HRs.out.step hb)
  try have HR := Lib.hid (HR.out.below hb)
  clear hb hY
  try simp only [Act.put, lsA, lsZ, lsS]
  refine rgT 3 (some 79) ?_
  refine wpAnyH_ready (rs := [0, 4, 9]) (by kernel_rfl) (by simp) ?_
  refine AllReadyH.cons rfl (fun K hK => ?_) (AllReadyH.cons rfl (fun K hK => ?_) (AllReadyH.cons rfl (fun K hK => ?_) AllReadyH.nil))
  ·go_simp
   refine (small_e _).mono ?_
   rintro e w13 ⟨ko, kn, kc, mo', mn', mc', rfl, hs, hb⟩
   have HSc := Lib.hid hs
   have HQ := Lib.hid (HQ.out.below hb)
   have HL5 := Lib.hid (Nat.lt_of_lt_of_le HL5.out hb.size)
   have HB := Lib.hid (HB.out.trans (hb.mono HB.out.size))
   try have HKb := Lib.hid (HKb.out.step hb)
   try have HKm := Lib.hid (HKm.out.step hb)
   try have HRs := Lib.hid (HRs.out.step hb)
   clear hs
   go_wp2_with fail
   refine hK.out _ _ ?_ (fun hHeld => ?_)
   ·exact kp_b (by assumption) hb
   clear hK K
   try simp only [Act.put, lsA, lsZ, lsS]
   refine wpAnyH_ready (rs := [4, 9]) (by kernel_rfl) (by simp) ?_
   refine AllReadyH.cons rfl (fun K hK => ?_) (AllReadyH.cons rfl (fun K hK => ?_) AllReadyH.nil)
   ·go_simp
    refine hK.out _ _ ?_ (fun hHeld => ?_)
    ·exact kp_b (by assumption) (below_al _ _)
    clear hK K
    obtain ⟨Y4, hY⟩ := al_ex HB.out (.cells #[.int .i64 3, .string ⟨#[99, 110]⟩, .slice (some ⟨_, 0, none⟩) 1 1] 57)
    have hb := al_be HB.out hY
    have HKm := Lib.hid (al_kb HB.out hY)
    rw [hY] at hHeld ⊢
    have HB := Lib.hid (HB.out.trans (hb.mono HB.out.size))
    have HL5 := Lib.hid (Nat.lt_of_lt_of_le HL5.out hb.size)
    try have HQ := Lib.hid (HQ.out.below hb)
    try have HSc := Lib.hid (HSc.out.below hb)
    try have HKb := Lib.hid (HKb.out.step hb)
    try have HRs := Lib.hid (HRs.out.step hb)
    try have HR := Lib.hid (HR.out.below hb)
    clear hb hY
    try simp only [Act.put, lsA, lsZ, lsS]
    refine wpAnyH_ready (rs := [5, 9]) (by kernel_rfl) (by simp) ?_
    refine AllReadyH.cons rfl (fun K hK => ?_) (AllReadyH.cons rfl (fun K hK => ?_) AllReadyH.nil)
    ·go_simp
     refine (apply_x HSc.out HQ.out (mds1 HKb.out HKm.out) (HO.out.below HB.out)).mono ?_
     rintro e w14 ⟨ro, rc, rfl, hr, hb⟩
     have HR := Lib.hid hr
     have HL5 := Lib.hid (Nat.lt_of_lt_of_le HL5.out hb.size)
     have HB := Lib.hid (HB.out.trans (hb.mono HB.out.size))
     try have HRs := Lib.hid (HRs.out.step hb)
     clear hr HQ
     try clear r0 r1 f0 f1
     try (have r0 := HRs.out.cell (i := 0) rfl)
     try (have r1 := HRs.out.cell (i := 1) rfl)
     try (have f0 := kb_frz HRs.out 0)
     try (have f1 := kb_frz HRs.out 1)
     go_wp2_with fail
     refine hK.out _ _ ?_ (fun hHeld => ?_)
     ·exact kp_b (by assumption) hb
     clear hK K
     try simp only [Act.put, lsA, lsZ, lsS]
     refine rgT 6 (some 75) ?_
     refine rgT 7 (some 82) ?_
     refine rgT 8 (some 83) ?_
     refine rgC 9 (fun K hK => ?_)
     go_simp
     refine hK.out _ _ ?_ (fun hHeld => ?_)
     ·exact kp_b (by assumption) (below_al _ _)
     clear hK K
     have HLR := Lib.hid HL5.out
     have HLf := Lib.hid HB.out.size
     obtain ⟨Y9, hY⟩ := al_ex HB.out (.cells #[.string ⟨#[]⟩, .slice none 0 0] 28)
     have hb := al_be HB.out hY
     have HRs := Lib.hid (al_kb HB.out hY)
     rw [hY] at hHeld ⊢
     have HB := Lib.hid (HB.out.trans (hb.mono HB.out.size))
     have HL5 := Lib.hid (Nat.lt_of_lt_of_le HL5.out hb.size)
     try have HQ := Lib.hid (HQ.out.below hb)
     try have HSc := Lib.hid (HSc.out.below hb)
     try have HKb := Lib.hid (HKb.out.step hb)
     try have HKm := Lib.hid (HKm.out.step hb)
     try have HR := Lib.hid (HR.out.below hb)
     clear hb hY
     try (have r0 := HRs.out.cell (i := 0) rfl)
     try (have r1 := HRs.out.cell (i := 1) rfl)
     try (have f0 := kb_frz HRs.out 0)
     try (have f1 := kb_frz HRs.out 1)
     try simp only [Act.put, lsA, lsZ, lsS]
     refine rgC 10 (fun K hK => ?_)
     go_simp
     refine hK.out _ _ ?_ (fun hHeld => ?_)
     ·exact kp_set (by assumption) HLR.out
     clear hK K
     try simp only [Act.put, lsA, lsZ, lsS]
     refine rgT 11 (some 2) ?_
     refine wpAnyH_done (by kernel_rfl) ?_ _
     obtain ⟨V, hV, hrv, hbv, q0, q1⟩ := ex_res HRs.out HR.out HB.out HLf.out
     rw [hV]
     have HBv := Lib.hid hbv
     obtain ⟨vb, voff, rfl, hvl, hvs⟩ := hrv.2.2.2 (by omega)
     obtain ⟨z0, zo, zn, zc, z1, hz⟩ := hvs 1 (by omega)
     obtain rfl : 1 = zn := hz.1
     have z2 : V.cell? ⟨vb, voff + 2 + 1, none⟩ = some (.slice zo 1 zc) := z1
     have z3 : V.cell? ⟨vb, voff + 3, none⟩ = some (.slice zo 1 zc) := z1
     have HZ := Lib.hid (show StrsAt V zo 1 zc [⟨#[98, 111, 98]⟩] from hz)
     have hbx := below_al V (.cells #[.string ⟨#[98, 111, 98]⟩] 9)
     have HSS := Lib.hid (sameS8_s zo (some ⟨V.heap.size, 0, none⟩) 1 1 zc 1 _ _ _ (HZ.out.below hbx) (strs_new V [⟨#[98, 111, 98]⟩] (by decide)))
     rw [decide_eq_true rfl] at HSS
     have HBv := Lib.hid (HBv.out.trans (hbx.mono HBv.out.size))
     clear hV hrv hbv hvl hvs hz z0 HR HRs HB HZ hbx z1
     try clear r0 r1 f0 f1
     go_wp2_with fail
     refine HSS.out.mono ?_
     rintro e w15 ⟨rfl, hb⟩
     have HBv := Lib.hid (HBv.out.trans (hb.mono HBv.out.size))
     clear hb HSS
     go_wp2_with fail
     go_ret
     exact ⟨rfl, HBv.out⟩
    ·go_simp
     refine hK.out _ _ ?_ (fun hHeld => ?_)
     ·exact kp_b (by assumption) (below_al _ _)
     clear hK K
     have HLR := Lib.hid HL5.out
     have HLf := Lib.hid HB.out.size
     obtain ⟨Y9, hY⟩ := al_ex HB.out (.cells #[.string ⟨#[]⟩, .slice none 0 0] 28)
     have hb := al_be HB.out hY
     have HRs := Lib.hid (al_kb HB.out hY)
     rw [hY] at hHeld ⊢
     have HB := Lib.hid (HB.out.trans (hb.mono HB.out.size))
     have HL5 := Lib.hid (Nat.lt_of_lt_of_le HL5.out hb.size)
     try have HQ := Lib.hid (HQ.out.below hb)
     try have HSc := Lib.hid (HSc.out.below hb)
     try have HKb := Lib.hid (HKb.out.step hb)
     try have HKm := Lib.hid (HKm.out.step hb)
     try have HR := Lib.hid (HR.out.below hb)
     clear hb hY
     try (have r0 := HRs.out.cell (i := 0) rfl)
     try (have r1 := HRs.out.cell (i := 1) rfl)
     try (have f0 := kb_frz HRs.out 0)
     try (have f1 := kb_frz HRs.out 1)
     try simp only [Act.put, lsA, lsZ, lsS]
     refine rgC 5 (fun K hK => ?_)
     go_simp
     refine (apply_x HSc.out HQ.out (mds1 HKb.out HKm.out) (HO.out.below HB.out)).mono ?_
     rintro e w14 ⟨ro, rc, rfl, hr, hb⟩
     have HR := Lib.hid hr
     have HL5 := Lib.hid (Nat.lt_of_lt_of_le HL5.out hb.size)
     have HB := Lib.hid (HB.out.trans (hb.mono HB.out.size))
     try have HRs := Lib.hid (HRs.out.step hb)
     clear hr HQ
     try clear r0 r1 f0 f1
     try (have r0 := HRs.out.cell (i := 0) rfl)
     try (have r1 := HRs.out.cell (i := 1) rfl)
     try (have f0 := kb_frz HRs.out 0)
     try (have f1 := kb_frz HRs.out 1)
     go_wp2_with fail
     refine hK.out _ _ ?_ (fun hHeld => ?_)
     ·exact kp_b (by assumption) hb
     clear hK K
     try simp only [Act.put, lsA, lsZ, lsS]
     refine rgT 6 (some 75) ?_
     refine rgT 7 (some 82) ?_
     refine rgT 8 (some 83) ?_
     refine rgC 10 (fun K hK => ?_)
     go_simp
     refine hK.out _ _ ?_ (fun hHeld => ?_)
     ·exact kp_set (by assumption) HLR.out
     clear hK K
     try simp only [Act.put, lsA, lsZ, lsS]
     refine rgT 11 (some 2) ?_
     refine wpAnyH_done (by kernel_rfl) ?_ _
     obtain ⟨V, hV, hrv, hbv, q0, q1⟩ := ex_res HRs.out HR.out HB.out HLf.out
     rw [hV]
     have HBv := Lib.hid hbv
     obtain ⟨vb, voff, rfl, hvl, hvs⟩ := hrv.2.2.2 (by omega)
     obtain ⟨z0, zo, zn, zc, z1, hz⟩ := hvs 1 (by omega)
     obtain rfl : 1 = zn := hz.1
     have z2 : V.cell? ⟨vb, voff + 2 + 1, none⟩ = some (.slice zo 1 zc) := z1
     have z3 : V.cell? ⟨vb, voff + 3, none⟩ = some (.slice zo 1 zc) := z1
     have HZ := Lib.hid (show StrsAt V zo 1 zc [⟨#[98, 111, 98]⟩] from hz)
     have hbx := below_al V (.cells #[.string ⟨#[98, 111, 98]⟩] 9)
     have HSS := Lib.hid (sameS8_s zo (some ⟨V.heap.size, 0, none⟩) 1 1 zc 1 _ _ _ (HZ.out.below hbx) (strs_new V [⟨#[98, 111, 98]⟩] (by decide)))
     rw [decide_eq_true rfl] at HSS
     have HBv := Lib.hid (HBv.out.trans (hbx.mono HBv.out.size))
     clear hV hrv hbv hvl hvs hz z0 HR HRs HB HZ hbx z1
     try clear r0 r1 f0 f1
     go_wp2_with fail
     refine HSS.out.mono ?_
     rintro e w15 ⟨rfl, hb⟩
     have HBv := Lib.hid (HBv.out.trans (hb.mono HBv.out.size))
     clear hb HSS
     go_wp2_with fail
     go_ret
     exact ⟨rfl, HBv.out⟩
   ·go_simp
    refine hK.out _ _ ?_ (fun hHeld => ?_)
    ·exact kp_b (by assumption) (below_al _ _)
    clear hK K
    have HLR := Lib.hid HL5.out
    have HLf := Lib.hid HB.out.size
    obtain ⟨Y9, hY⟩ := al_ex HB.out (.cells #[.string ⟨#[]⟩, .slice none 0 0] 28)
    have hb := al_be HB.out hY
    have HRs := Lib.hid (al_kb HB.out hY)
    rw [hY] at hHeld ⊢
    have HB := Lib.hid (HB.out.trans (hb.mono HB.out.size))
    have HL5 := Lib.hid (Nat.lt_of_lt_of_le HL5.out hb.size)
    try have HQ := Lib.hid (HQ.out.below hb)
    try have HSc := Lib.hid (HSc.out.below hb)
    try have HKb := Lib.hid (HKb.out.step hb)
    try have HKm := Lib.hid (HKm.out.step hb)
    try have HR := Lib.hid (HR.out.below hb)
    clear hb hY
    try (have r0 := HRs.out.cell (i := 0) rfl)
    try (have r1 := HRs.out.cell (i := 1) rfl)
    try (have f0 := kb_frz HRs.out 0)
    try (have f1 := kb_frz HRs.out 1)
    try simp only [Act.put, lsA, lsZ, lsS]
    refine rgC 4 (fun K hK => ?_)
    go_simp
    refine hK.out _ _ ?_ (fun hHeld => ?_)
    ·exact kp_b (by assumption) (below_al _ _)
    clear hK K
    obtain ⟨Y4, hY⟩ := al_ex HB.out (.cells #[.int .i64 3, .string ⟨#[99, 110]⟩, .slice (some ⟨_, 0, none⟩) 1 1] 57)
    have hb := al_be HB.out hY
    have HKm := Lib.hid (al_kb HB.out hY)
    rw [hY] at hHeld ⊢
    have HB := Lib.hid (HB.out.trans (hb.mono HB.out.size))
    have HL5 := Lib.hid (Nat.lt_of_lt_of_le HL5.out hb.size)
    try have HQ := Lib.hid (HQ.out.below hb)
    try have HSc := Lib.hid (HSc.out.below hb)
    try have HKb := Lib.hid (HKb.out.step hb)
    try have HRs := Lib.hid (HRs.out.step hb)
    try have HR := Lib.hid (HR.out.below hb)
    clear hb hY
    try simp only [Act.put, lsA, lsZ, lsS]
    refine rgC 5 (fun K hK => ?_)
    go_simp
    refine (apply_x HSc.out HQ.out (mds1 HKb.out HKm.out) (HO.out.below HB.out)).mono ?_
    rintro e w14 ⟨ro, rc, rfl, hr, hb⟩
    have HR := Lib.hid hr
    have HL5 := Lib.hid (Nat.lt_of_lt_of_le HL5.out hb.size)
    have HB := Lib.hid (HB.out.trans (hb.mono HB.out.size))
    try have HRs := Lib.hid (HRs.out.step hb)
    clear hr HQ
    try clear r0 r1 f0 f1
    try (have r0 := HRs.out.cell (i := 0) rfl)
    try (have r1 := HRs.out.cell (i := 1) rfl)
    try (have f0 := kb_frz HRs.out 0)
    try (have f1 := kb_frz HRs.out 1)
    go_wp2_with fail
    refine hK.out _ _ ?_ (fun hHeld => ?_)
    ·exact kp_b (by assumption) hb
    clear hK K
    try simp only [Act.put, lsA, lsZ, lsS]
    refine rgT 6 (some 75) ?_
    refine rgT 7 (some 82) ?_
    refine rgT 8 (some 83) ?_
    refine rgC 10 (fun K hK => ?_)
    go_simp
    refine hK.out _ _ ?_ (fun hHeld => ?_)
    ·exact kp_set (by assumption) HLR.out
    clear hK K
    try simp only [Act.put, lsA, lsZ, lsS]
    refine rgT 11 (some 2) ?_
    refine wpAnyH_done (by kernel_rfl) ?_ _
    obtain ⟨V, hV, hrv, hbv, q0, q1⟩ := ex_res HRs.out HR.out HB.out HLf.out
    rw [hV]
    have HBv := Lib.hid hbv
    obtain ⟨vb, voff, rfl, hvl, hvs⟩ := hrv.2.2.2 (by omega)
    obtain ⟨z0, zo, zn, zc, z1, hz⟩ := hvs 1 (by omega)
    obtain rfl : 1 = zn := hz.1
    have z2 : V.cell? ⟨vb, voff + 2 + 1, none⟩ = some (.slice zo 1 zc) := z1
    have z3 : V.cell? ⟨vb, voff + 3, none⟩ = some (.slice zo 1 zc) := z1
    have HZ := Lib.hid (show StrsAt V zo 1 zc [⟨#[98, 111, 98]⟩] from hz)
    have hbx := below_al V (.cells #[.string ⟨#[98, 111, 98]⟩] 9)
    have HSS := Lib.hid (sameS8_s zo (some ⟨V.heap.size, 0, none⟩) 1 1 zc 1 _ _ _ (HZ.out.below hbx) (strs_new V [⟨#[98, 111, 98]⟩] (by decide)))
    rw [decide_eq_true rfl] at HSS
    have HBv := Lib.hid (HBv.out.trans (hbx.mono HBv.out.size))
    clear hV hrv hbv hvl hvs hz z0 HR HRs HB HZ hbx z1
    try clear r0 r1 f0 f1
    go_wp2_with fail
    refine HSS.out.mono ?_
    rintro e w15 ⟨rfl, hb⟩
    have HBv := Lib.hid (HBv.out.trans (hb.mono HBv.out.size))
    clear hb HSS
    go_wp2_with fail
    go_ret
    exact ⟨rfl, HBv.out⟩
  ·go_simp
   refine hK.out _ _ ?_ (fun hHeld => ?_)
   ·exact kp_b (by assumption) (below_al _ _)
   clear hK K
   obtain ⟨Y4, hY⟩ := al_ex HB.out (.cells #[.int .i64 3, .string ⟨#[99, 110]⟩, .slice (some ⟨_, 0, none⟩) 1 1] 57)
   have hb := al_be HB.out hY
   have HKm := Lib.hid (al_kb HB.out hY)
   rw [hY] at hHeld ⊢
   have HB := Lib.hid (HB.out.trans (hb.mono HB.out.size))
   have HL5 := Lib.hid (Nat.lt_of_lt_of_le HL5.out hb.size)
   try have HQ := Lib.hid (HQ.out.below hb)
   try have HSc := Lib.hid (HSc.out.below hb)
   try have HKb := Lib.hid (HKb.out.step hb)
   try have HRs := Lib.hid (HRs.out.step hb)
   try have HR := Lib.hid (HR.out.below hb)
   clear hb hY
   try simp only [Act.put, lsA, lsZ, lsS]
   refine wpAnyH_ready (rs := [0, 9]) (by kernel_rfl) (by simp) ?_
   refine AllReadyH.cons rfl (fun K hK => ?_) (AllReadyH.cons rfl (fun K hK => ?_) AllReadyH.nil)
   ·go_simp
    refine (small_e _).mono ?_
    rintro e w13 ⟨ko, kn, kc, mo', mn', mc', rfl, hs, hb⟩
    have HSc := Lib.hid hs
    have HQ := Lib.hid (HQ.out.below hb)
    have HL5 := Lib.hid (Nat.lt_of_lt_of_le HL5.out hb.size)
    have HB := Lib.hid (HB.out.trans (hb.mono HB.out.size))
    try have HKb := Lib.hid (HKb.out.step hb)
    try have HKm := Lib.hid (HKm.out.step hb)
    try have HRs := Lib.hid (HRs.out.step hb)
    clear hs
    go_wp2_with fail
    refine hK.out _ _ ?_ (fun hHeld => ?_)
    ·exact kp_b (by assumption) hb
    clear hK K
    try simp only [Act.put, lsA, lsZ, lsS]
    refine wpAnyH_ready (rs := [5, 9]) (by kernel_rfl) (by simp) ?_
    refine AllReadyH.cons rfl (fun K hK => ?_) (AllReadyH.cons rfl (fun K hK => ?_) AllReadyH.nil)
    ·go_simp
     refine (apply_x HSc.out HQ.out (mds1 HKb.out HKm.out) (HO.out.below HB.out)).mono ?_
     rintro e w14 ⟨ro, rc, rfl, hr, hb⟩
     have HR := Lib.hid hr
     have HL5 := Lib.hid (Nat.lt_of_lt_of_le HL5.out hb.size)
     have HB := Lib.hid (HB.out.trans (hb.mono HB.out.size))
     try have HRs := Lib.hid (HRs.out.step hb)
     clear hr HQ
     try clear r0 r1 f0 f1
     try (have r0 := HRs.out.cell (i := 0) rfl)
     try (have r1 := HRs.out.cell (i := 1) rfl)
     try (have f0 := kb_frz HRs.out 0)
     try (have f1 := kb_frz HRs.out 1)
     go_wp2_with fail
     refine hK.out _ _ ?_ (fun hHeld => ?_)
     ·exact kp_b (by assumption) hb
     clear hK K
     try simp only [Act.put, lsA, lsZ, lsS]
     refine rgT 6 (some 75) ?_
     refine rgT 7 (some 82) ?_
     refine rgT 8 (some 83) ?_
     refine rgC 9 (fun K hK => ?_)
     go_simp
     refine hK.out _ _ ?_ (fun hHeld => ?_)
     ·exact kp_b (by assumption) (below_al _ _)
     clear hK K
     have HLR := Lib.hid HL5.out
     have HLf := Lib.hid HB.out.size
     obtain ⟨Y9, hY⟩ := al_ex HB.out (.cells #[.string ⟨#[]⟩, .slice none 0 0] 28)
     have hb := al_be HB.out hY
     have HRs := Lib.hid (al_kb HB.out hY)
     rw [hY] at hHeld ⊢
     have HB := Lib.hid (HB.out.trans (hb.mono HB.out.size))
     have HL5 := Lib.hid (Nat.lt_of_lt_of_le HL5.out hb.size)
     try have HQ := Lib.hid (HQ.out.below hb)
     try have HSc := Lib.hid (HSc.out.below hb)
     try have HKb := Lib.hid (HKb.out.step hb)
     try have HKm := Lib.hid (HKm.out.step hb)
     try have HR := Lib.hid (HR.out.below hb)
     clear hb hY
     try (have r0 := HRs.out.cell (i := 0) rfl)
     try (have r1 := HRs.out.cell (i := 1) rfl)
     try (have f0 := kb_frz HRs.out 0)
     try (have f1 := kb_frz HRs.out 1)
     try simp only [Act.put, lsA, lsZ, lsS]
     refine rgC 10 (fun K hK => ?_)
     go_simp
     refine hK.out _ _ ?_ (fun hHeld => ?_)
     ·exact kp_set (by assumption) HLR.out
     clear hK K
     try simp only [Act.put, lsA, lsZ, lsS]
     refine rgT 11 (some 2) ?_
     refine wpAnyH_done (by kernel_rfl) ?_ _
     obtain ⟨V, hV, hrv, hbv, q0, q1⟩ := ex_res HRs.out HR.out HB.out HLf.out
     rw [hV]
     have HBv := Lib.hid hbv
     obtain ⟨vb, voff, rfl, hvl, hvs⟩ := hrv.2.2.2 (by omega)
     obtain ⟨z0, zo, zn, zc, z1, hz⟩ := hvs 1 (by omega)
     obtain rfl : 1 = zn := hz.1
     have z2 : V.cell? ⟨vb, voff + 2 + 1, none⟩ = some (.slice zo 1 zc) := z1
     have z3 : V.cell? ⟨vb, voff + 3, none⟩ = some (.slice zo 1 zc) := z1
     have HZ := Lib.hid (show StrsAt V zo 1 zc [⟨#[98, 111, 98]⟩] from hz)
     have hbx := below_al V (.cells #[.string ⟨#[98, 111, 98]⟩] 9)
     have HSS := Lib.hid (sameS8_s zo (some ⟨V.heap.size, 0, none⟩) 1 1 zc 1 _ _ _ (HZ.out.below hbx) (strs_new V [⟨#[98, 111, 98]⟩] (by decide)))
     rw [decide_eq_true rfl] at HSS
     have HBv := Lib.hid (HBv.out.trans (hbx.mono HBv.out.size))
     clear hV hrv hbv hvl hvs hz z0 HR HRs HB HZ hbx z1
     try clear r0 r1 f0 f1
     go_wp2_with fail
     refine HSS.out.mono ?_
     rintro e w15 ⟨rfl, hb⟩
     have HBv := Lib.hid (HBv.out.trans (hb.mono HBv.out.size))
     clear hb HSS
     go_wp2_with fail
     go_ret
     exact ⟨rfl, HBv.out⟩
    ·go_simp
     refine hK.out _ _ ?_ (fun hHeld => ?_)
     ·exact kp_b (by assumption) (below_al _ _)
     clear hK K
     have HLR := Lib.hid HL5.out
     have HLf := Lib.hid HB.out.size
     obtain ⟨Y9, hY⟩ := al_ex HB.out (.cells #[.string ⟨#[]⟩, .slice none 0 0] 28)
     have hb := al_be HB.out hY
     have HRs := Lib.hid (al_kb HB.out hY)
     rw [hY] at hHeld ⊢
     have HB := Lib.hid (HB.out.trans (hb.mono HB.out.size))
     have HL5 := Lib.hid (Nat.lt_of_lt_of_le HL5.out hb.size)
     try have HQ := Lib.hid (HQ.out.below hb)
     try have HSc := Lib.hid (HSc.out.below hb)
     try have HKb := Lib.hid (HKb.out.step hb)
     try have HKm := Lib.hid (HKm.out.step hb)
     try have HR := Lib.hid (HR.out.below hb)
     clear hb hY
     try (have r0 := HRs.out.cell (i := 0) rfl)
     try (have r1 := HRs.out.cell (i := 1) rfl)
     try (have f0 := kb_frz HRs.out 0)
     try (have f1 := kb_frz HRs.out 1)
     try simp only [Act.put, lsA, lsZ, lsS]
     refine rgC 5 (fun K hK => ?_)
     go_simp
     refine (apply_x HSc.out HQ.out (mds1 HKb.out HKm.out) (HO.out.below HB.out)).mono ?_
     rintro e w14 ⟨ro, rc, rfl, hr, hb⟩
     have HR := Lib.hid hr
     have HL5 := Lib.hid (Nat.lt_of_lt_of_le HL5.out hb.size)
     have HB := Lib.hid (HB.out.trans (hb.mono HB.out.size))
     try have HRs := Lib.hid (HRs.out.step hb)
     clear hr HQ
     try clear r0 r1 f0 f1
     try (have r0 := HRs.out.cell (i := 0) rfl)
     try (have r1 := HRs.out.cell (i := 1) rfl)
     try (have f0 := kb_frz HRs.out 0)
     try (have f1 := kb_frz HRs.out 1)
     go_wp2_with fail
     refine hK.out _ _ ?_ (fun hHeld => ?_)
     ·exact kp_b (by assumption) hb
     clear hK K
     try simp only [Act.put, lsA, lsZ, lsS]
     refine rgT 6 (some 75) ?_
     refine rgT 7 (some 82) ?_
     refine rgT 8 (some 83) ?_
     refine rgC 10 (fun K hK => ?_)
     go_simp
     refine hK.out _ _ ?_ (fun hHeld => ?_)
     ·exact kp_set (by assumption) HLR.out
     clear hK K
     try simp only [Act.put, lsA, lsZ, lsS]
     refine rgT 11 (some 2) ?_
     refine wpAnyH_done (by kernel_rfl) ?_ _
     obtain ⟨V, hV, hrv, hbv, q0, q1⟩ := ex_res HRs.out HR.out HB.out HLf.out
     rw [hV]
     have HBv := Lib.hid hbv
     obtain ⟨vb, voff, rfl, hvl, hvs⟩ := hrv.2.2.2 (by omega)
     obtain ⟨z0, zo, zn, zc, z1, hz⟩ := hvs 1 (by omega)
     obtain rfl : 1 = zn := hz.1
     have z2 : V.cell? ⟨vb, voff + 2 + 1, none⟩ = some (.slice zo 1 zc) := z1
     have z3 : V.cell? ⟨vb, voff + 3, none⟩ = some (.slice zo 1 zc) := z1
     have HZ := Lib.hid (show StrsAt V zo 1 zc [⟨#[98, 111, 98]⟩] from hz)
     have hbx := below_al V (.cells #[.string ⟨#[98, 111, 98]⟩] 9)
     have HSS := Lib.hid (sameS8_s zo (some ⟨V.heap.size, 0, none⟩) 1 1 zc 1 _ _ _ (HZ.out.below hbx) (strs_new V [⟨#[98, 111, 98]⟩] (by decide)))
     rw [decide_eq_true rfl] at HSS
     have HBv := Lib.hid (HBv.out.trans (hbx.mono HBv.out.size))
     clear hV hrv hbv hvl hvs hz z0 HR HRs HB HZ hbx z1
     try clear r0 r1 f0 f1
     go_wp2_with fail
     refine HSS.out.mono ?_
     rintro e w15 ⟨rfl, hb⟩
     have HBv := Lib.hid (HBv.out.trans (hb.mono HBv.out.size))
     clear hb HSS
     go_wp2_with fail
     go_ret
     exact ⟨rfl, HBv.out⟩
   ·go_simp
    refine hK.out _ _ ?_ (fun hHeld => ?_)
    ·exact kp_b (by assumption) (below_al _ _)
    clear hK K
    have HLR := Lib.hid HL5.out
    have HLf := Lib.hid HB.out.size
    obtain ⟨Y9, hY⟩ := al_ex HB.out (.cells #[.string ⟨#[]⟩, .slice none 0 0] 28)
    have hb := al_be HB.out hY
    have HRs := Lib.hid (al_kb HB.out hY)
    rw [hY] at hHeld ⊢
    have HB := Lib.hid (HB.out.trans (hb.mono HB.out.size))
    have HL5 := Lib.hid (Nat.lt_of_lt_of_le HL5.out hb.size)
    try have HQ := Lib.hid (HQ.out.below hb)
    try have HSc := Lib.hid (HSc.out.below hb)
    try have HKb := Lib.hid (HKb.out.step hb)
    try have HKm := Lib.hid (HKm.out.step hb)
    try have HR := Lib.hid (HR.out.below hb)
    clear hb hY
    try (have r0 := HRs.out.cell (i := 0) rfl)
    try (have r1 := HRs.out.cell (i := 1) rfl)
    try (have f0 := kb_frz HRs.out 0)
    try (have f1 := kb_frz HRs.out 1)
    try simp only [Act.put, lsA, lsZ, lsS]
    refine rgC 0 (fun K hK => ?_)
    go_simp
    refine (small_e _).mono ?_
    rintro e w13 ⟨ko, kn, kc, mo', mn', mc', rfl, hs, hb⟩
    have HSc := Lib.hid hs
    have HQ := Lib.hid (HQ.out.below hb)
    have HL5 := Lib.hid (Nat.lt_of_lt_of_le HL5.out hb.size)
    have HB := Lib.hid (HB.out.trans (hb.mono HB.out.size))
    try have HKb := Lib.hid (HKb.out.step hb)
    try have HKm := Lib.hid (HKm.out.step hb)
    try have HRs := Lib.hid (HRs.out.step hb)
    clear hs
    go_wp2_with fail
    refine hK.out _ _ ?_ (fun hHeld => ?_)
    ·exact kp_b (by assumption) hb
    clear hK K
    try simp only [Act.put, lsA, lsZ, lsS]
    refine rgC 5 (fun K hK => ?_)
    go_simp
    refine (apply_x HSc.out HQ.out (mds1 HKb.out HKm.out) (HO.out.below HB.out)).mono ?_
    rintro e w14 ⟨ro, rc, rfl, hr, hb⟩
    have HR := Lib.hid hr
    have HL5 := Lib.hid (Nat.lt_of_lt_of_le HL5.out hb.size)
    have HB := Lib.hid (HB.out.trans (hb.mono HB.out.size))
    try have HRs := Lib.hid (HRs.out.step hb)
    clear hr HQ
    try clear r0 r1 f0 f1
    try (have r0 := HRs.out.cell (i := 0) rfl)
    try (have r1 := HRs.out.cell (i := 1) rfl)
    try (have f0 := kb_frz HRs.out 0)
    try (have f1 := kb_frz HRs.out 1)
    go_wp2_with fail
    refine hK.out _ _ ?_ (fun hHeld => ?_)
    ·exact kp_b (by assumption) hb
    clear hK K
    try simp only [Act.put, lsA, lsZ, lsS]
    refine rgT 6 (some 75) ?_
    refine rgT 7 (some 82) ?_
    refine rgT 8 (some 83) ?_
    refine rgC 10 (fun K hK => ?_)
    go_simp
    refine hK.out _ _ ?_ (fun hHeld => ?_)
    ·exact kp_set (by assumption) HLR.out
    clear hK K
    try simp only [Act.put, lsA, lsZ, lsS]
    refine rgT 11 (some 2) ?_
    refine wpAnyH_done (by kernel_rfl) ?_ _
    obtain ⟨V, hV, hrv, hbv, q0, q1⟩ := ex_res HRs.out HR.out HB.out HLf.out
    rw [hV]
    have HBv := Lib.hid hbv
    obtain ⟨vb, voff, rfl, hvl, hvs⟩ := hrv.2.2.2 (by omega)
    obtain ⟨z0, zo, zn, zc, z1, hz⟩ := hvs 1 (by omega)
    obtain rfl : 1 = zn := hz.1
    have z2 : V.cell? ⟨vb, voff + 2 + 1, none⟩ = some (.slice zo 1 zc) := z1
    have z3 : V.cell? ⟨vb, voff + 3, none⟩ = some (.slice zo 1 zc) := z1
    have HZ := Lib.hid (show StrsAt V zo 1 zc [⟨#[98, 111, 98]⟩] from hz)
    have hbx := below_al V (.cells #[.string ⟨#[98, 111, 98]⟩] 9)
    have HSS := Lib.hid (sameS8_s zo (some ⟨V.heap.size, 0, none⟩) 1 1 zc 1 _ _ _ (HZ.out.below hbx) (strs_new V [⟨#[98, 111, 98]⟩] (by decide)))
    rw [decide_eq_true rfl] at HSS
    have HBv := Lib.hid (HBv.out.trans (hbx.mono HBv.out.size))
    clear hV hrv hbv hvl hvs hz z0 HR HRs HB HZ hbx z1
    try clear r0 r1 f0 f1
    go_wp2_with fail
    refine HSS.out.mono ?_
    rintro e w15 ⟨rfl, hb⟩
    have HBv := Lib.hid (HBv.out.trans (hb.mono HBv.out.size))
    clear hb HSS
    go_wp2_with fail
    go_ret
    exact ⟨rfl, HBv.out⟩
  ·go_simp
   refine hK.out _ _ ?_ (fun hHeld => ?_)
   ·exact kp_b (by assumption) (below_al _ _)
   clear hK K
   have HLR := Lib.hid HL5.out
   have HLf := Lib.hid HB.out.size
   obtain ⟨Y9, hY⟩ := al_ex HB.out (.cells #[.string ⟨#[]⟩, .slice none 0 0] 28)
   have hb := al_be HB.out hY
   have HRs := Lib.hid (al_kb HB.out hY)
   rw [hY] at hHeld ⊢
   have HB := Lib.hid (HB.out.trans (hb.mono HB.out.size))
   have HL5 := Lib.hid (Nat.lt_of_lt_of_le HL5.out hb.size)
   try have HQ := Lib.hid (HQ.out.below hb)
   try have HSc := Lib.hid (HSc.out.below hb)
   try have HKb := Lib.hid (HKb.out.step hb)
   try have HKm := Lib.hid (HKm.out.step hb)
   try have HR := Lib.hid (HR.out.below hb)
   clear hb hY
   try (have r0 := HRs.out.cell (i := 0) rfl)
   try (have r1 := HRs.out.cell (i := 1) rfl)
   try (have f0 := kb_frz HRs.out 0)
   try (have f1 := kb_frz HRs.out 1)
   try simp only [Act.put, lsA, lsZ, lsS]
   refine wpAnyH_ready (rs := [0, 4]) (by kernel_rfl) (by simp) ?_
   refine AllReadyH.cons rfl (fun K hK => ?_) (AllReadyH.cons rfl (fun K hK => ?_) AllReadyH.nil)
   ·go_simp
    refine (small_e _).mono ?_
    rintro e w13 ⟨ko, kn, kc, mo', mn', mc', rfl, hs, hb⟩
    have HSc := Lib.hid hs
    have HQ := Lib.hid (HQ.out.below hb)
    have HL5 := Lib.hid (Nat.lt_of_lt_of_le HL5.out hb.size)
    have HB := Lib.hid (HB.out.trans (hb.mono HB.out.size))
    try have HKb := Lib.hid (HKb.out.step hb)
    try have HKm := Lib.hid (HKm.out.step hb)
    try have HRs := Lib.hid (HRs.out.step hb)
    clear hs
    go_wp2_with fail
    refine hK.out _ _ ?_ (fun hHeld => ?_)
    ·exact kp_b (by assumption) hb
    clear hK K
    try simp only [Act.put, lsA, lsZ, lsS]
    refine rgC 4 (fun K hK => ?_)
    go_simp
    refine hK.out _ _ ?_ (fun hHeld => ?_)
    ·exact kp_b (by assumption) (below_al _ _)
    clear hK K
    obtain ⟨Y4, hY⟩ := al_ex HB.out (.cells #[.int .i64 3, .string ⟨#[99, 110]⟩, .slice (some ⟨_, 0, none⟩) 1 1] 57)
    have hb := al_be HB.out hY
    have HKm := Lib.hid (al_kb HB.out hY)
    rw [hY] at hHeld ⊢
    have HB := Lib.hid (HB.out.trans (hb.mono HB.out.size))
    have HL5 := Lib.hid (Nat.lt_of_lt_of_le HL5.out hb.size)
    try have HQ := Lib.hid (HQ.out.below hb)
    try have HSc := Lib.hid (HSc.out.below hb)
    try have HKb := Lib.hid (HKb.out.step hb)
    try have HRs := Lib.hid (HRs.out.step hb)
    try have HR := Lib.hid (HR.out.below hb)
    clear hb hY
    try simp only [Act.put, lsA, lsZ, lsS]
    refine rgC 5 (fun K hK => ?_)
    go_simp
    refine (apply_x HSc.out HQ.out (mds1 HKb.out HKm.out) (HO.out.below HB.out)).mono ?_
    rintro e w14 ⟨ro, rc, rfl, hr, hb⟩
    have HR := Lib.hid hr
    have HL5 := Lib.hid (Nat.lt_of_lt_of_le HL5.out hb.size)
    have HB := Lib.hid (HB.out.trans (hb.mono HB.out.size))
    try have HRs := Lib.hid (HRs.out.step hb)
    clear hr HQ
    try clear r0 r1 f0 f1
    try (have r0 := HRs.out.cell (i := 0) rfl)
    try (have r1 := HRs.out.cell (i := 1) rfl)
    try (have f0 := kb_frz HRs.out 0)
    try (have f1 := kb_frz HRs.out 1)
    go_wp2_with fail
    refine hK.out _ _ ?_ (fun hHeld => ?_)
    ·exact kp_b (by assumption) hb
    clear hK K
    try simp only [Act.put, lsA, lsZ, lsS]
    refine rgT 6 (some 75) ?_
    refine rgT 7 (some 82) ?_
    refine rgT 8 (some 83) ?_
    refine rgC 10 (fun K hK => ?_)
    go_simp
    refine hK.out _ _ ?_ (fun hHeld => ?_)
    ·exact kp_set (by assumption) HLR.out
    clear hK K
    try simp only [Act.put, lsA, lsZ, lsS]
    refine rgT 11 (some 2) ?_
    refine wpAnyH_done (by kernel_rfl) ?_ _
    obtain ⟨V, hV, hrv, hbv, q0, q1⟩ := ex_res HRs.out HR.out HB.out HLf.out
    rw [hV]
    have HBv := Lib.hid hbv
    obtain ⟨vb, voff, rfl, hvl, hvs⟩ := hrv.2.2.2 (by omega)
    obtain ⟨z0, zo, zn, zc, z1, hz⟩ := hvs 1 (by omega)
    obtain rfl : 1 = zn := hz.1
    have z2 : V.cell? ⟨vb, voff + 2 + 1, none⟩ = some (.slice zo 1 zc) := z1
    have z3 : V.cell? ⟨vb, voff + 3, none⟩ = some (.slice zo 1 zc) := z1
    have HZ := Lib.hid (show StrsAt V zo 1 zc [⟨#[98, 111, 98]⟩] from hz)
    have hbx := below_al V (.cells #[.string ⟨#[98, 111, 98]⟩] 9)
    have HSS := Lib.hid (sameS8_s zo (some ⟨V.heap.size, 0, none⟩) 1 1 zc 1 _ _ _ (HZ.out.below hbx) (strs_new V [⟨#[98, 111, 98]⟩] (by decide)))
    rw [decide_eq_true rfl] at HSS
    have HBv := Lib.hid (HBv.out.trans (hbx.mono HBv.out.size))
    clear hV hrv hbv hvl hvs hz z0 HR HRs HB HZ hbx z1
    try clear r0 r1 f0 f1
    go_wp2_with fail
    refine HSS.out.mono ?_
    rintro e w15 ⟨rfl, hb⟩
    have HBv := Lib.hid (HBv.out.trans (hb.mono HBv.out.size))
    clear hb HSS
    go_wp2_with fail
    go_ret
    exact ⟨rfl, HBv.out⟩
   ·go_simp
    refine hK.out _ _ ?_ (fun hHeld => ?_)
    ·exact kp_b (by assumption) (below_al _ _)
    clear hK K
    obtain ⟨Y4, hY⟩ := al_ex HB.out (.cells #[.int .i64 3, .string ⟨#[99, 110]⟩, .slice (some ⟨_, 0, none⟩) 1 1] 57)
    have hb := al_be HB.out hY
    have HKm := Lib.hid (al_kb HB.out hY)
    rw [hY] at hHeld ⊢
    have HB := Lib.hid (HB.out.trans (hb.mono HB.out.size))
    have HL5 := Lib.hid (Nat.lt_of_lt_of_le HL5.out hb.size)
    try have HQ := Lib.hid (HQ.out.below hb)
    try have HSc := Lib.hid (HSc.out.below hb)
    try have HKb := Lib.hid (HKb.out.step hb)
    try have HRs := Lib.hid (HRs.out.step hb)
    try have HR := Lib.hid (HR.out.below hb)
    clear hb hY
    try simp only [Act.put, lsA, lsZ, lsS]
    refine rgC 0 (fun K hK => ?_)
    go_simp
    refine (small_e _).mono ?_
    rintro e w13 ⟨ko, kn, kc, mo', mn', mc', rfl, hs, hb⟩
    have HSc := Lib.hid hs
    have HQ := Lib.hid (HQ.out.below hb)
    have HL5 := Lib.hid (Nat.lt_of_lt_of_le HL5.out hb.size)
    have HB := Lib.hid (HB.out.trans (hb.mono HB.out.size))
    try have HKb := Lib.hid (HKb.out.step hb)
    try have HKm := Lib.hid (HKm.out.step hb)
    try have HRs := Lib.hid (HRs.out.step hb)
    clear hs
    go_wp2_with fail
    refine hK.out _ _ ?_ (fun hHeld => ?_)
    ·exact kp_b (by assumption) hb
    clear hK K
    try simp only [Act.put, lsA, lsZ, lsS]
    refine rgC 5 (fun K hK => ?_)
    go_simp
    refine (apply_x HSc.out HQ.out (mds1 HKb.out HKm.out) (HO.out.below HB.out)).mono ?_
    rintro e w14 ⟨ro, rc, rfl, hr, hb⟩
    have HR := Lib.hid hr
    have HL5 := Lib.hid (Nat.lt_of_lt_of_le HL5.out hb.size)
    have HB := Lib.hid (HB.out.trans (hb.mono HB.out.size))
    try have HRs := Lib.hid (HRs.out.step hb)
    clear hr HQ
    try clear r0 r1 f0 f1
    try (have r0 := HRs.out.cell (i := 0) rfl)
    try (have r1 := HRs.out.cell (i := 1) rfl)
    try (have f0 := kb_frz HRs.out 0)
    try (have f1 := kb_frz HRs.out 1)
    go_wp2_with fail
    refine hK.out _ _ ?_ (fun hHeld => ?_)
    ·exact kp_b (by assumption) hb
    clear hK K
    try simp only [Act.put, lsA, lsZ, lsS]
    refine rgT 6 (some 75) ?_
    refine rgT 7 (some 82) ?_
    refine rgT 8 (some 83) ?_
    refine rgC 10 (fun K hK => ?_)
    go_simp
    refine hK.out _ _ ?_ (fun hHeld => ?_)
    ·exact kp_set (by assumption) HLR.out
    clear hK K
    try simp only [Act.put, lsA, lsZ, lsS]
    refine rgT 11 (some 2) ?_
    refine wpAnyH_done (by kernel_rfl) ?_ _
    obtain ⟨V, hV, hrv, hbv, q0, q1⟩ := ex_res HRs.out HR.out HB.out HLf.out
    rw [hV]
    have HBv := Lib.hid hbv
    obtain ⟨vb, voff, rfl, hvl, hvs⟩ := hrv.2.2.2 (by omega)
    obtain ⟨z0, zo, zn, zc, z1, hz⟩ := hvs 1 (by omega)
    obtain rfl : 1 = zn := hz.1
    have z2 : V.cell? ⟨vb, voff + 2 + 1, none⟩ = some (.slice zo 1 zc) := z1
    have z3 : V.cell? ⟨vb, voff + 3, none⟩ = some (.slice zo 1 zc) := z1
    have HZ := Lib.hid (show StrsAt V zo 1 zc [⟨#[98, 111, 98]⟩] from hz)
    have hbx := below_al V (.cells #[.string ⟨#[98, 111, 98]⟩] 9)
    have HSS := Lib.hid (sameS8_s zo (some ⟨V.heap.size, 0, none⟩) 1 1 zc 1 _ _ _ (HZ.out.below hbx) (strs_new V [⟨#[98, 111, 98]⟩] (by decide)))
    rw [decide_eq_true rfl] at HSS
    have HBv := Lib.hid (HBv.out.trans (hbx.mono HBv.out.size))
    clear hV hrv hbv hvl hvs hz z0 HR HRs HB HZ hbx z1
    try clear r0 r1 f0 f1
    go_wp2_with fail
    refine HSS.out.mono ?_
    rintro e w15 ⟨rfl, hb⟩
    have HBv := Lib.hid (HBv.out.trans (hb.mono HBv.out.size))
    clear hb HSS
    go_wp2_with fail
    go_ret
    exact ⟨rfl, HBv.out⟩
 ·go_simp
  refine hK.out _ _ ?_ (fun hHeld => ?_)
  ·exact kp_b (by assumption) (below_al _ _)
  clear hK K
  have HLR := Lib.hid HL5.out
  have HLf := Lib.hid HB.out.size
  obtain ⟨Y9, hY⟩ := al_ex HB.out (.cells #[.string ⟨#[]⟩, .slice none 0 0] 28)
  have hb := al_be HB.out hY
  have HRs := Lib.hid (al_kb HB.out hY)
  rw [hY] at hHeld ⊢
  have HB := Lib.hid (HB.out.trans (hb.mono HB.out.size))
  have HL5 := Lib.hid (Nat.lt_of_lt_of_le HL5.out hb.size)
  try have HQ := Lib.hid (HQ.out.below hb)
  try have HSc := Lib.hid (HSc.out.below hb)
  try have HKb := Lib.hid (HKb.out.step hb)
  try have HKm := Lib.hid (HKm.out.step hb)
  try have HR := Lib.hid (HR.out.below hb)
  clear hb hY
  try (have r0 := HRs.out.cell (i := 0) rfl)
  try (have r1 := HRs.out.cell (i := 1) rfl)
  try (have f0 := kb_frz HRs.out 0)
  try (have f1 := kb_frz HRs.out 1)
  try simp only [Act.put, lsA, lsZ, lsS]
  refine wpAnyH_ready (rs := [0, 2]) (by kernel_rfl) (by simp) ?_
  refine AllReadyH.cons rfl (fun K hK => ?_) (AllReadyH.cons rfl (fun K hK => ?_) AllReadyH.nil)
  ·go_simp
   refine (small_e _).mono ?_
   rintro e w13 ⟨ko, kn, kc, mo', mn', mc', rfl, hs, hb⟩
   have HSc := Lib.hid hs
   have HQ := Lib.hid (HQ.out.below hb)
   have HL5 := Lib.hid (Nat.lt_of_lt_of_le HL5.out hb.size)
   have HB := Lib.hid (HB.out.trans (hb.mono HB.out.size))
   try have HKb := Lib.hid (HKb.out.step hb)
   try have HKm := Lib.hid (HKm.out.step hb)
   try have HRs := Lib.hid (HRs.out.step hb)
   clear hs
   go_wp2_with fail
   refine hK.out _ _ ?_ (fun hHeld => ?_)
   ·exact kp_b (by assumption) hb
   clear hK K
   try simp only [Act.put, lsA, lsZ, lsS]
   refine rgC 2 (fun K hK => ?_)
   go_simp
   refine hK.out _ _ ?_ (fun hHeld => ?_)
   ·exact kp_b (by assumption) (below_al _ _)
   clear hK K
   obtain ⟨Y2, hY⟩ := al_ex HB.out (.cells #[.string ⟨#[66, 111, 98]⟩] 9)
   have hb := al_be HB.out hY
   have HKb := Lib.hid (al_kb HB.out hY)
   rw [hY] at hHeld ⊢
   have HB := Lib.hid (HB.out.trans (hb.mono HB.out.size))
   have HL5 := Lib.hid (Nat.lt_of_lt_of_le HL5.out hb.size)
   try have HQ := Lib.hid (HQ.out.below hb)
   try have HSc := Lib.hid (HSc.out.below hb)
   try have HKm := Lib.hid (HKm.out.step hb)
   try have HRs := Lib.hid (HRs.out.step hb)
   try have HR := Lib.hid (HR.out.below hb)
   clear hb hY
   try simp only [Act.put, lsA, lsZ, lsS]
   refine rgT 3 (some 79) ?_
   refine rgC 4 (fun K hK => ?_)
   go_simp
   refine hK.out _ _ ?_ (fun hHeld => ?_)
   ·exact kp_b (by assumption) (below_al _ _)
   clear hK K
   obtain ⟨Y4, hY⟩ := al_ex HB.out (.cells #[.int .i64 3, .string ⟨#[99, 110]⟩, .slice (some ⟨_, 0, none⟩) 1 1] 57)
   have hb := al_be HB.out hY
   have HKm := Lib.hid (al_kb HB.out hY)
   rw [hY] at hHeld ⊢
   have HB := Lib.hid (HB.out.trans (hb.mono HB.out.size))
   have HL5 := Lib.hid (Nat.lt_of_lt_of_le HL5.out hb.size)
   try have HQ := Lib.hid (HQ.out.below hb)
   try have HSc := Lib.hid (HSc.out.below hb)
   try have HKb := Lib.hid (HKb.out.step hb)
   try have HRs := Lib.hid (HRs.out.step hb)
   try have HR := Lib.hid (HR.out.below hb)
   clear hb hY
   try simp only [Act.put, lsA, lsZ, lsS]
   refine rgC 5 (fun K hK => ?_)
   go_simp
   refine (apply_x HSc.out HQ.out (mds1 HKb.out HKm.out) (HO.out.below HB.out)).mono ?_
   rintro e w14 ⟨ro, rc, rfl, hr, hb⟩
   have HR := Lib.hid hr
   have HL5 := Lib.hid (Nat.lt_of_lt_of_le HL5.out hb.size)
   have HB := Lib.hid (HB.out.trans (hb.mono HB.out.size))
   try have HRs := Lib.hid (HRs.out.step hb)
   clear hr HQ
   try clear r0 r1 f0 f1
   try (have r0 := HRs.out.cell (i := 0) rfl)
   try (have r1 := HRs.out.cell (i := 1) rfl)
   try (have f0 := kb_frz HRs.out 0)
   try (have f1 := kb_frz HRs.out 1)
   go_wp2_with fail
   refine hK.out _ _ ?_ (fun hHeld => ?_)
   ·exact kp_b (by assumption) hb
   clear hK K
   try simp only [Act.put, lsA, lsZ, lsS]
   refine rgT 6 (some 75) ?_
   refine rgT 7 (some 82) ?_
   refine rgT 8 (some 83) ?_
   refine rgC 10 (fun K hK => ?_)
   go_simp
   refine hK.out _ _ ?_ (fun hHeld => ?_)
   ·exact kp_set (by assumption) HLR.out
   clear hK K
   try simp only [Act.put, lsA, lsZ, lsS]
   refine rgT 11 (some 2) ?_
   refine wpAnyH_done (by kernel_rfl) ?_ _
   obtain ⟨V, hV, hrv, hbv, q0, q1⟩ := ex_res HRs.out HR.out HB.out HLf.out
   rw [hV]
   have HBv := Lib.hid hbv
   obtain ⟨vb, voff, rfl, hvl, hvs⟩ := hrv.2.2.2 (by omega)
   obtain ⟨z0, zo, zn, zc, z1, hz⟩ := hvs 1 (by omega)
   obtain rfl : 1 = zn := hz.1
   have z2 : V.cell? ⟨vb, voff + 2 + 1, none⟩ = some (.slice zo 1 zc) := z1
   have z3 : V.cell? ⟨vb, voff + 3, none⟩ = some (.slice zo 1 zc) := z1
   have HZ := Lib.hid (show StrsAt V zo 1 zc [⟨#[98, 111, 98]⟩] from hz)
   have hbx := below_al V (.cells #[.string ⟨#[98, 111, 98]⟩] 9)
   have HSS := Lib.hid (sameS8_s zo (some ⟨V.heap.size, 0, none⟩) 1 1 zc 1 _ _ _ (HZ.out.below hbx) (strs_new V [⟨#[98, 111, 98]⟩] (by decide)))
   rw [decide_eq_true rfl] at HSS
   have HBv := Lib.hid (HBv.out.trans (hbx.mono HBv.out.size))
   clear hV hrv hbv hvl hvs hz z0 HR HRs HB HZ hbx z1
   try clear r0 r1 f0 f1
   go_wp2_with fail
   refine HSS.out.mono ?_
   rintro e w15 ⟨rfl, hb⟩
   have HBv := Lib.hid (HBv.out.trans (hb.mono HBv.out.size))
   clear hb HSS
   go_wp2_with fail
   go_ret
   exact ⟨rfl, HBv.out⟩
  ·go_simp
   refine hK.out _ _ ?_ (fun hHeld => ?_)
   ·exact kp_b (by assumption) (below_al _ _)
   clear hK K
   obtain ⟨Y2, hY⟩ := al_ex HB.out (.cells #[.string ⟨#[66, 111, 98]⟩] 9)
   have hb := al_be HB.out hY
   have HKb := Lib.hid (al_kb HB.out hY)
   rw [hY] at hHeld ⊢
   have HB := Lib.hid (HB.out.trans (hb.mono HB.out.size))
   have HL5 := Lib.hid (Nat.lt_of_lt_of_le HL5.out hb.size)
   try have HQ := Lib.hid (HQ.out.below hb)
   try have HSc := Lib.hid (HSc.out.below hb)
   try have HKm := Lib.hid (HKm.out.step hb)
   try have HRs := Lib.hid (HRs.out.step hb)
   try have HR := Lib.hid (HR.out.below hb)
   clear hb hY
   try simp only [Act.put, lsA, lsZ, lsS]
   refine rgT 3 (some 79) ?_
   refine wpAnyH_ready (rs := [0, 4]) (by kernel_rfl) (by simp) ?_
   refine AllReadyH.cons rfl (fun K hK => ?_) (AllReadyH.cons rfl (fun K hK => ?_) AllReadyH.nil)
   ·go_simp
    refine (small_e _).mono ?_
    rintro e w13 ⟨ko, kn, kc, mo', mn', mc', rfl, hs, hb⟩
    have HSc := Lib.hid hs
    have HQ := Lib.hid (HQ.out.below hb)
    have HL5 := Lib.hid (Nat.lt_of_lt_of_le HL5.out hb.size)
    have HB := Lib.hid (HB.out.trans (hb.mono HB.out.size))
    try have HKb := Lib.hid (HKb.out.step hb)
    try have HKm := Lib.hid (HKm.out.step hb)
    try have HRs := Lib.hid (HRs.out.step hb)
    clear hs
    go_wp2_with fail
    refine hK.out _ _ ?_ (fun hHeld => ?_)
    ·exact kp_b (by assumption) hb
    clear hK K
    try simp only [Act.put, lsA, lsZ, lsS]
    refine rgC 4 (fun K hK => ?_)
    go_simp
    refine hK.out _ _ ?_ (fun hHeld => ?_)
    ·exact kp_b (by assumption) (below_al _ _)
    clear hK K
    obtain ⟨Y4, hY⟩ := al_ex HB.out (.cells #[.int .i64 3, .string ⟨#[99, 110]⟩, .slice (some ⟨_, 0, none⟩) 1 1] 57)
    have hb := al_be HB.out hY
    have HKm := Lib.hid (al_kb HB.out hY)
    rw [hY] at hHeld ⊢
    have HB := Lib.hid (HB.out.trans (hb.mono HB.out.size))
    have HL5 := Lib.hid (Nat.lt_of_lt_of_le HL5.out hb.size)
    try have HQ := Lib.hid (HQ.out.below hb)
    try have HSc := Lib.hid (HSc.out.below hb)
    try have HKb := Lib.hid (HKb.out.step hb)
    try have HRs := Lib.hid (HRs.out.step hb)
    try have HR := Lib.hid (HR.out.below hb)
    clear hb hY
    try simp only [Act.put, lsA, lsZ, lsS]
    refine rgC 5 (fun K hK => ?_)
    go_simp
    refine (apply_x HSc.out HQ.out (mds1 HKb.out HKm.out) (HO.out.below HB.out)).mono ?_
    rintro e w14 ⟨ro, rc, rfl, hr, hb⟩
    have HR := Lib.hid hr
    have HL5 := Lib.hid (Nat.lt_of_lt_of_le HL5.out hb.size)
    have HB := Lib.hid (HB.out.trans (hb.mono HB.out.size))
    try have HRs := Lib.hid (HRs.out.step hb)
    clear hr HQ
    try clear r0 r1 f0 f1
    try (have r0 := HRs.out.cell (i := 0) rfl)
    try (have r1 := HRs.out.cell (i := 1) rfl)
    try (have f0 := kb_frz HRs.out 0)
    try (have f1 := kb_frz HRs.out 1)
    go_wp2_with fail
    refine hK.out _ _ ?_ (fun hHeld => ?_)
    ·exact kp_b (by assumption) hb
    clear hK K
    try simp only [Act.put, lsA, lsZ, lsS]
    refine rgT 6 (some 75) ?_
    refine rgT 7 (some 82) ?_
    refine rgT 8 (some 83) ?_
    refine rgC 10 (fun K hK => ?_)
    go_simp
    refine hK.out _ _ ?_ (fun hHeld => ?_)
    ·exact kp_set (by assumption) HLR.out
    clear hK K
    try simp only [Act.put, lsA, lsZ, lsS]
    refine rgT 11 (some 2) ?_
    refine wpAnyH_done (by kernel_rfl) ?_ _
    obtain ⟨V, hV, hrv, hbv, q0, q1⟩ := ex_res HRs.out HR.out HB.out HLf.out
    rw [hV]
    have HBv := Lib.hid hbv
    obtain ⟨vb, voff, rfl, hvl, hvs⟩ := hrv.2.2.2 (by omega)
    obtain ⟨z0, zo, zn, zc, z1, hz⟩ := hvs 1 (by omega)
    obtain rfl : 1 = zn := hz.1
    have z2 : V.cell? ⟨vb, voff + 2 + 1, none⟩ = some (.slice zo 1 zc) := z1
    have z3 : V.cell? ⟨vb, voff + 3, none⟩ = some (.slice zo 1 zc) := z1
    have HZ := Lib.hid (show StrsAt V zo 1 zc [⟨#[98, 111, 98]⟩] from hz)
    have hbx := below_al V (.cells #[.string ⟨#[98, 111, 98]⟩] 9)
    have HSS := Lib.hid (sameS8_s zo (some ⟨V.heap.size, 0, none⟩) 1 1 zc 1 _ _ _ (HZ.out.below hbx) (strs_new V [⟨#[98, 111, 98]⟩] (by decide)))
    rw [decide_eq_true rfl] at HSS
    have HBv := Lib.hid (HBv.out.trans (hbx.mono HBv.out.size))
    clear hV hrv hbv hvl hvs hz z0 HR HRs HB HZ hbx z1
    try clear r0 r1 f0 f1
    go_wp2_with fail
    refine HSS.out.mono ?_
    rintro e w15 ⟨rfl, hb⟩
    have HBv := Lib.hid (HBv.out.trans (hb.mono HBv.out.size))
    clear hb HSS
    go_wp2_with fail
    go_ret
    exact ⟨rfl, HBv.out⟩
   ·go_simp
    refine hK.out _ _ ?_ (fun hHeld => ?_)
    ·exact kp_b (by assumption) (below_al _ _)
    clear hK K
    obtain ⟨Y4, hY⟩ := al_ex HB.out (.cells #[.int .i64 3, .string ⟨#[99, 110]⟩, .slice (some ⟨_, 0, none⟩) 1 1] 57)
    have hb := al_be HB.out hY
    have HKm := Lib.hid (al_kb HB.out hY)
    rw [hY] at hHeld ⊢
    have HB := Lib.hid (HB.out.trans (hb.mono HB.out.size))
    have HL5 := Lib.hid (Nat.lt_of_lt_of_le HL5.out hb.size)
    try have HQ := Lib.hid (HQ.out.below hb)
    try have HSc := Lib.hid (HSc.out.below hb)
    try have HKb := Lib.hid (HKb.out.step hb)
    try have HRs := Lib.hid (HRs.out.step hb)
    try have HR := Lib.hid (HR.out.below hb)
    clear hb hY
    try simp only [Act.put, lsA, lsZ, lsS]
    refine rgC 0 (fun K hK => ?_)
    go_simp
    refine (small_e _).mono ?_
    rintro e w13 ⟨ko, kn, kc, mo', mn', mc', rfl, hs, hb⟩
    have HSc := Lib.hid hs
    have HQ := Lib.hid (HQ.out.below hb)
    have HL5 := Lib.hid (Nat.lt_of_lt_of_le HL5.out hb.size)
    have HB := Lib.hid (HB.out.trans (hb.mono HB.out.size))
    try have HKb := Lib.hid (HKb.out.step hb)
    try have HKm := Lib.hid (HKm.out.step hb)
    try have HRs := Lib.hid (HRs.out.step hb)
    clear hs
    go_wp2_with fail
    refine hK.out _ _ ?_ (fun hHeld => ?_)
    ·exact kp_b (by assumption) hb
    clear hK K
    try simp only [Act.put, lsA, lsZ, lsS]
    refine rgC 5 (fun K hK => ?_)
    go_simp
    refine (apply_x HSc.out HQ.out (mds1 HKb.out HKm.out) (HO.out.below HB.out)).mono ?_
    rintro e w14 ⟨ro, rc, rfl, hr, hb⟩
    have HR := Lib.hid hr
    have HL5 := Lib.hid (Nat.lt_of_lt_of_le HL5.out hb.size)
    have HB := Lib.hid (HB.out.trans (hb.mono HB.out.size))
    try have HRs := Lib.hid (HRs.out.step hb)
    clear hr HQ
    try clear r0 r1 f0 f1
    try (have r0 := HRs.out.cell (i := 0) rfl)
    try (have r1 := HRs.out.cell (i := 1) rfl)
    try (have f0 := kb_frz HRs.out 0)
    try (have f1 := kb_frz HRs.out 1)
    go_wp2_with fail
    refine hK.out _ _ ?_ (fun hHeld => ?_)
    ·exact kp_b (by assumption) hb
    clear hK K
    try simp only [Act.put, lsA, lsZ, lsS]
    refine rgT 6 (some 75) ?_
    refine rgT 7 (some 82) ?_
    refine rgT 8 (some 83) ?_
    refine rgC 10 (fun K hK => ?_)
    go_simp
    refine hK.out _ _ ?_ (fun hHeld => ?_)
    ·exact kp_set (by assumption) HLR.out
    clear hK K
    try simp only [Act.put, lsA, lsZ, lsS]
    refine rgT 11 (some 2) ?_
    refine wpAnyH_done (by kernel_rfl) ?_ _
    obtain ⟨V, hV, hrv, hbv, q0, q1⟩ := ex_res HRs.out HR.out HB.out HLf.out
    rw [hV]
    have HBv := Lib.hid hbv
    obtain ⟨vb, voff, rfl, hvl, hvs⟩ := hrv.2.2.2 (by omega)
    obtain ⟨z0, zo, zn, zc, z1, hz⟩ := hvs 1 (by omega)
    obtain rfl : 1 = zn := hz.1
    have z2 : V.cell? ⟨vb, voff + 2 + 1, none⟩ = some (.slice zo 1 zc) := z1
    have z3 : V.cell? ⟨vb, voff + 3, none⟩ = some (.slice zo 1 zc) := z1
    have HZ := Lib.hid (show StrsAt V zo 1 zc [⟨#[98, 111, 98]⟩] from hz)
    have hbx := below_al V (.cells #[.string ⟨#[98, 111, 98]⟩] 9)
    have HSS := Lib.hid (sameS8_s zo (some ⟨V.heap.size, 0, none⟩) 1 1 zc 1 _ _ _ (HZ.out.below hbx) (strs_new V [⟨#[98, 111, 98]⟩] (by decide)))
    rw [decide_eq_true rfl] at HSS
    have HBv := Lib.hid (HBv.out.trans (hbx.mono HBv.out.size))
    clear hV hrv hbv hvl hvs hz z0 HR HRs HB HZ hbx z1
    try clear r0 r1 f0 f1
    go_wp2_with fail
    refine HSS.out.mono ?_
    rintro e w15 ⟨rfl, hb⟩
    have HBv := Lib.hid (HBv.out.trans (hb.mono HBv.out.size))
    clear hb HSS
    go_wp2_with fail
    go_ret
    exact ⟨rfl, HBv.out⟩
end Go.Proofs.YtonfkhkalodldabGreatDoor
end
