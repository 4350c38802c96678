/-
  normal forms are their own normal forms, and schema.Compare orders the values by them, for every schema and every three values. No condition.
-/
import Derived.Test.YtclfjdnemafmeaaGreatDoorM25

section
/-
  The walk of SchemaOrders. No condition.
-/
set_option maxRecDepth 100000
set_option linter.unusedVariables false
set_option linter.unusedSimpArgs false
set_option linter.unnecessarySimpa false
namespace Go.Proofs.YtclfjdnemafmeaaGreatDoor
open Go.RowKit Go.PlainAid

set_option maxHeartbeats 16000000 in
theorem lorders_s (to : Option Addr) (tn tc : Nat) (ts : List Ty) (co : Option Addr) (cn cc : Nat) (cs : List Cl) (xn xa xb xc : ByteArray) (W : World) (HT : TysAt W to tn tc ts) (RT : RTy ts) (HC : ClsAt W co cn cc cs) (RC : RCl cs) (Mxn : xn.size ≤ 140737488355328) (Mxa : xa.size ≤ 140737488355328) (Mxb : xb.size ≤ 140737488355328) (Mxc : xc.size ≤ 140737488355328) (hok : SOk W) :
    Calls Tryz.prog 9 #[.agg #[.slice to tn tc, .slice co cn cc], .agg #[.string xn, .string xa, .string xb, .string xc]] W fun e w' => e = .returned (.bool true) ∧ Below W.heap.size W w' := by
  have HO := Lib.hid hok
  clear hok
  have a0 := below_al W (.cells #[.slice to tn tc, .slice co cn cc] 25)
  have HK0 : Hid (Kb (W.alloc (.cells #[.slice to tn tc, .slice co cn cc] 25)) W.heap.size (.cells #[.slice to tn tc, .slice co cn cc] 25)) := Lib.hid (kbl_new W _)
  have b0 := below_al (W.alloc (.cells #[.slice to tn tc, .slice co cn cc] 25)) (.cells #[.string xn, .string xa, .string xb, .string xc] 40)
  have HK0 := Lib.hid (HK0.out.step b0)
  have HX : Hid (Kb ((W.alloc (.cells #[.slice to tn tc, .slice co cn cc] 25)).alloc (.cells #[.string xn, .string xa, .string xb, .string xc] 40)) (W.heap.size + 1) (.cells #[.string xn, .string xa, .string xb, .string xc] 40)) := Lib.hid (by have := kbl_new (W.alloc (.cells #[.slice to tn tc, .slice co cn cc] 25)) (.cells #[.string xn, .string xa, .string xb, .string xc] 40); simpa using this)
  have a1 := a0.trans (b0.mono a0.size)
  have HI := Lib.hid (And.intro HT HC)
  have HFew := Lib.hid (few_s to tn tc ts co cn cc cs _ (HT.below a1) RT (HC.below a1) RC)
  have HLow := Lib.hid a1
  clear HT HC RT RC a0 a1 b0
  have c0 := HK0.out.cell (i := 0) rfl
  have c1 := HK0.out.cell (i := 1) rfl
  go_enter Tryz.func9, Tryz.ntmps9
  go_wp2_with fail
  refine HFew.out.mono ?_
  rintro e w1 ⟨⟨g, rfl, hg, hb⟩⟩
  have HK0 := Lib.hid (HK0.out.step hb)
  have HX := Lib.hid (HX.out.step hb)
  have HLow := Lib.hid (HLow.out.trans (hb.mono HLow.out.size))
  have HO := Lib.hid (HO.out.below HLow.out)
  clear hb HFew c0 c1
  cases g
  · have HCx := Lib.hid (alive_s _ HO.out)
    go_wp2_with fail
    refine HCx.out.mono ?_
    rintro e w9 ⟨rfl, hb⟩
    have HLow := Lib.hid (HLow.out.trans (hb.mono HLow.out.size))
    clear hb
    go_wp2_with fail
    go_ret
    exact ⟨rfl, HLow.out⟩
  · have HG := Lib.hid (hg rfl)
    clear hg
    have HAV : Hid (AV W w1 W.heap.size to tn tc co cn cc ts cs) := Lib.hid ⟨HK0.out, ⟨_, _, _, _, _, _, rfl, HI.out.1.below HLow.out, HI.out.2.below HLow.out, HG.out.smT, HG.out.smC⟩, HO.out, HLow.out⟩
    clear HK0
    have c0 := HAV.out.box.cell (i := 0) rfl
    have c1 := HAV.out.box.cell (i := 1) rfl
    have x0 := HX.out.cell (i := 0) rfl
    have x1 := HX.out.cell (i := 1) rfl
    have x2 := HX.out.cell (i := 2) rfl
    have x3 := HX.out.cell (i := 3) rfl
    by_cases Lxn : 300 < xn.size
    · have Dxn : decide ((300 : Int) < (xn.size : Int)) = true := decide_eq_true (by omega)
      have HCx := Lib.hid (alive_s _ HAV.out.ok)
      go_wp2_with fail
      refine HCx.out.mono ?_
      rintro e w9 ⟨rfl, hb⟩
      have HAV := Lib.hid (HAV.out.step hb)
      clear hb
      go_wp2_with fail
      go_ret
      exact ⟨rfl, HAV.out.low⟩
    · have Dxn : decide ((300 : Int) < (xn.size : Int)) = false := decide_eq_false (by omega)
      by_cases Lxa : 300 < xa.size
      · have Dxa : decide ((300 : Int) < (xa.size : Int)) = true := decide_eq_true (by omega)
        have HCx := Lib.hid (alive_s _ HAV.out.ok)
        go_wp2_with fail
        refine HCx.out.mono ?_
        rintro e w9 ⟨rfl, hb⟩
        have HAV := Lib.hid (HAV.out.step hb)
        clear hb
        go_wp2_with fail
        go_ret
        exact ⟨rfl, HAV.out.low⟩
      · have Dxa : decide ((300 : Int) < (xa.size : Int)) = false := decide_eq_false (by omega)
        by_cases Lxb : 300 < xb.size
        · have Dxb : decide ((300 : Int) < (xb.size : Int)) = true := decide_eq_true (by omega)
          have HCx := Lib.hid (alive_s _ HAV.out.ok)
          go_wp2_with fail
          refine HCx.out.mono ?_
          rintro e w9 ⟨rfl, hb⟩
          have HAV := Lib.hid (HAV.out.step hb)
          clear hb
          go_wp2_with fail
          go_ret
          exact ⟨rfl, HAV.out.low⟩
        · have Dxb : decide ((300 : Int) < (xb.size : Int)) = false := decide_eq_false (by omega)
          by_cases Lxc : 300 < xc.size
          · have Dxc : decide ((300 : Int) < (xc.size : Int)) = true := decide_eq_true (by omega)
            have HCx := Lib.hid (alive_s _ HAV.out.ok)
            go_wp2_with fail
            refine HCx.out.mono ?_
            rintro e w9 ⟨rfl, hb⟩
            have HAV := Lib.hid (HAV.out.step hb)
            clear hb
            go_wp2_with fail
            go_ret
            exact ⟨rfl, HAV.out.low⟩
          · have Dxc : decide ((300 : Int) < (xc.size : Int)) = false := decide_eq_false (by omega)
            have Nn : xn.size ≤ 1000000000 := by omega
            have Na : xa.size ≤ 1000000 := by omega
            have Nb : xb.size ≤ 1000000 := by omega
            have Nc : xc.size ≤ 1000000 := by omega
            obtain ⟨T, hT⟩ : ∃ x, soundT ts cs = x := ⟨_, rfl⟩
            have HTs := Lib.hid hT
            clear hT
            obtain ⟨fa, hfa⟩ : ∃ x, nrmV T xn xa = x := ⟨_, rfl⟩
            obtain ⟨ea, hea⟩ : ∃ x, nrmE T xn xa = x := ⟨_, rfl⟩
            have HFa := Lib.hid (And.intro hfa hea)
            clear hfa hea
            obtain ⟨fb, hfb⟩ : ∃ x, nrmV T xn xb = x := ⟨_, rfl⟩
            obtain ⟨eb, heb⟩ : ∃ x, nrmE T xn xb = x := ⟨_, rfl⟩
            have HFb := Lib.hid (And.intro hfb heb)
            clear hfb heb
            obtain ⟨fc, hfc⟩ : ∃ x, nrmV T xn xc = x := ⟨_, rfl⟩
            obtain ⟨ec, hec⟩ : ∃ x, nrmE T xn xc = x := ⟨_, rfl⟩
            have HFc := Lib.hid (And.intro hfc hec)
            clear hfc hec
            have HCx := Lib.hid (normalF_s _ ts cs xn xa _ HAV.out.sch Nn Na HAV.out.ok.io)
            rw [HTs.out, HFa.out.1, HFa.out.2] at HCx
            go_wp2_with fail
            refine HCx.out.mono ?_
            rintro e w2 ⟨rfl, hb⟩
            have HAV := Lib.hid (HAV.out.step hb)
            have HX := Lib.hid (HX.out.step hb)
            clear c0 c1 x0 x1 x2 x3
            clear hb HCx
            have c0 := HAV.out.box.cell (i := 0) rfl
            have c1 := HAV.out.box.cell (i := 1) rfl
            have x0 := HX.out.cell (i := 0) rfl
            have x1 := HX.out.cell (i := 1) rfl
            have x2 := HX.out.cell (i := 2) rfl
            have x3 := HX.out.cell (i := 3) rfl
            have HCx := Lib.hid (normalF_s _ ts cs xn xb _ HAV.out.sch Nn Nb HAV.out.ok.io)
            rw [HTs.out, HFb.out.1, HFb.out.2] at HCx
            go_wp2_with fail
            refine HCx.out.mono ?_
            rintro e w3 ⟨rfl, hb⟩
            have HAV := Lib.hid (HAV.out.step hb)
            have HX := Lib.hid (HX.out.step hb)
            clear c0 c1 x0 x1 x2 x3
            clear hb HCx
            have c0 := HAV.out.box.cell (i := 0) rfl
            have c1 := HAV.out.box.cell (i := 1) rfl
            have x0 := HX.out.cell (i := 0) rfl
            have x1 := HX.out.cell (i := 1) rfl
            have x2 := HX.out.cell (i := 2) rfl
            have x3 := HX.out.cell (i := 3) rfl
            have HCx := Lib.hid (normalF_s _ ts cs xn xc _ HAV.out.sch Nn Nc HAV.out.ok.io)
            rw [HTs.out, HFc.out.1, HFc.out.2] at HCx
            go_wp2_with fail
            refine HCx.out.mono ?_
            rintro e w4 ⟨rfl, hb⟩
            have HAV := Lib.hid (HAV.out.step hb)
            have HX := Lib.hid (HX.out.step hb)
            clear c0 c1 x0 x1 x2 x3
            clear hb HCx
            have c0 := HAV.out.box.cell (i := 0) rfl
            have c1 := HAV.out.box.cell (i := 1) rfl
            have x0 := HX.out.cell (i := 0) rfl
            have x1 := HX.out.cell (i := 1) rfl
            have x2 := HX.out.cell (i := 2) rfl
            have x3 := HX.out.cell (i := 3) rfl
            by_cases za : ea = 0
            · have ka : (ea != 0) = false := by rw [za]; rfl
              by_cases zb : eb = 0
              · have kb : (eb != 0) = false := by rw [zb]; rfl
                by_cases zc : ec = 0
                · have kc : (ec != 0) = false := by rw [zc]; rfl
                  have HR := Lib.hid (ordR (HFa.out.2.trans za) (HFb.out.2.trans zb) (HFc.out.2.trans zc))
                  have hfz : fa.size ≤ 256 := by rw [← HFa.out.1]; unfold nrmV; split; exact Nat.zero_le _; exact getD_small
                  obtain ⟨p, hp⟩ : ∃ x, cmpV T xn xa xb = x := ⟨_, rfl⟩
                  obtain ⟨r, hr⟩ : ∃ x, cmpV T xn xb xc = x := ⟨_, rfl⟩
                  obtain ⟨u, hu⟩ : ∃ x, cmpV T xn xa xc = x := ⟨_, rfl⟩
                  have HV := Lib.hid (show cmpV T xn xb xa = -p by rw [← hp]; exact HR.out.anti)
                  have HP := Lib.hid hp
                  have HRr := Lib.hid hr
                  have HUu := Lib.hid hu
                  have plo : -1 ≤ p := by rw [← hp]; exact HR.out.lo
                  have phi : p ≤ 1 := by rw [← hp]; exact HR.out.hi
                  have pze : p = 0 ↔ fa = fb := by rw [← hp, ← HFa.out.1, ← HFb.out.1]; exact HR.out.zero
                  have ptr : p ≤ 0 → r ≤ 0 → u ≤ 0 := by rw [← hp, ← hr, ← hu]; exact HR.out.trans
                  have HPZ := Lib.hid pze
                  have HPT := Lib.hid ptr
                  have HAg := Lib.hid (show nrmV T xn fa = fa ∧ nrmE T xn fa = 0 by rw [← HFa.out.1]; exact ⟨HR.out.again.2, HR.out.again.1⟩)
                  clear hp hr hu pze ptr
                  have HCx := Lib.hid (normalF_s _ ts cs xn fa _ HAV.out.sch Nn (by omega) HAV.out.ok.io)
                  rw [HTs.out, HAg.out.1, HAg.out.2] at HCx
                  go_wp2_with fail
                  refine HCx.out.mono ?_
                  rintro e w5 ⟨rfl, hb⟩
                  have HAV := Lib.hid (HAV.out.step hb)
                  have HX := Lib.hid (HX.out.step hb)
                  clear c0 c1 x0 x1 x2 x3
                  clear hb HCx
                  have c0 := HAV.out.box.cell (i := 0) rfl
                  have c1 := HAV.out.box.cell (i := 1) rfl
                  have x0 := HX.out.cell (i := 0) rfl
                  have x1 := HX.out.cell (i := 1) rfl
                  have x2 := HX.out.cell (i := 2) rfl
                  have x3 := HX.out.cell (i := 3) rfl
                  have HCx := Lib.hid (compareF_s _ ts cs xn xa xb _ HAV.out.sch Nn Na Nb HAV.out.ok.io)
                  rw [HTs.out, HP.out, HR.out.fine.1] at HCx
                  go_wp2_with fail
                  refine HCx.out.mono ?_
                  rintro e w6 ⟨rfl, hb⟩
                  have HAV := Lib.hid (HAV.out.step hb)
                  have HX := Lib.hid (HX.out.step hb)
                  clear c0 c1 x0 x1 x2 x3
                  clear hb HCx
                  have c0 := HAV.out.box.cell (i := 0) rfl
                  have c1 := HAV.out.box.cell (i := 1) rfl
                  have x0 := HX.out.cell (i := 0) rfl
                  have x1 := HX.out.cell (i := 1) rfl
                  have x2 := HX.out.cell (i := 2) rfl
                  have x3 := HX.out.cell (i := 3) rfl
                  have HCx := Lib.hid (compareF_s _ ts cs xn xb xa _ HAV.out.sch Nn Nb Na HAV.out.ok.io)
                  rw [HTs.out, HV.out, HR.out.fine.2.1] at HCx
                  go_wp2_with fail
                  refine HCx.out.mono ?_
                  rintro e w7 ⟨rfl, hb⟩
                  have HAV := Lib.hid (HAV.out.step hb)
                  have HX := Lib.hid (HX.out.step hb)
                  clear c0 c1 x0 x1 x2 x3
                  clear hb HCx
                  have c0 := HAV.out.box.cell (i := 0) rfl
                  have c1 := HAV.out.box.cell (i := 1) rfl
                  have x0 := HX.out.cell (i := 0) rfl
                  have x1 := HX.out.cell (i := 1) rfl
                  have x2 := HX.out.cell (i := 2) rfl
                  have x3 := HX.out.cell (i := 3) rfl
                  have HCx := Lib.hid (compareF_s _ ts cs xn xb xc _ HAV.out.sch Nn Nb Nc HAV.out.ok.io)
                  rw [HTs.out, HRr.out, HR.out.fine.2.2.1] at HCx
                  go_wp2_with fail
                  refine HCx.out.mono ?_
                  rintro e w8 ⟨rfl, hb⟩
                  have HAV := Lib.hid (HAV.out.step hb)
                  have HX := Lib.hid (HX.out.step hb)
                  clear c0 c1 x0 x1 x2 x3
                  clear hb HCx
                  have c0 := HAV.out.box.cell (i := 0) rfl
                  have c1 := HAV.out.box.cell (i := 1) rfl
                  have x0 := HX.out.cell (i := 0) rfl
                  have x1 := HX.out.cell (i := 1) rfl
                  have x2 := HX.out.cell (i := 2) rfl
                  have x3 := HX.out.cell (i := 3) rfl
                  have HCx := Lib.hid (compareF_s _ ts cs xn xa xc _ HAV.out.sch Nn Na Nc HAV.out.ok.io)
                  rw [HTs.out, HUu.out, HR.out.fine.2.2.2] at HCx
                  go_wp2_with fail
                  refine HCx.out.mono ?_
                  rintro e w9 ⟨rfl, hb⟩
                  have HAV := Lib.hid (HAV.out.step hb)
                  have HX := Lib.hid (HX.out.step hb)
                  clear c0 c1 x0 x1 x2 x3
                  clear hb HCx
                  have c0 := HAV.out.box.cell (i := 0) rfl
                  have c1 := HAV.out.box.cell (i := 1) rfl
                  have x0 := HX.out.cell (i := 0) rfl
                  have x1 := HX.out.cell (i := 1) rfl
                  have x2 := HX.out.cell (i := 2) rfl
                  have x3 := HX.out.cell (i := 3) rfl
                  have q0 : (fa.toList != fa.toList) = false := by simp
                  have q1 : (fa.toList == fa.toList) = true := by simp
                  rcases (show p = -1 ∨ p = 0 ∨ p = 1 by omega) with hq | hq | hq
                  · obtain rfl : p = -1 := by omega
                    have hab : fa ≠ fb := fun h => by have := HPZ.out.2 h; omega
                    have q2 : (fa.toList == fb.toList) = false := by rw [Lib.toList_data, Lib.toList_data]; exact beq_false_of_ne (fun h => hab (ba_ext h))
                    have q3 : (fa.toList != fb.toList) = true := by unfold bne; rw [q2]; rfl
                    clear hab
                    by_cases hr0 : 0 < r
                    · have r1 : decide ((0 : Int) < r) = true := decide_eq_true hr0
                      have HCx := Lib.hid (alive_s _ HAV.out.ok)
                      go_wp2_with fail
                      refine HCx.out.mono ?_
                      rintro e w9 ⟨rfl, hb⟩
                      have HAV := Lib.hid (HAV.out.step hb)
                      clear hb
                      go_wp2_with fail
                      go_ret
                      exact ⟨rfl, HAV.out.low⟩
                    · have r1 : decide ((0 : Int) < r) = false := decide_eq_false hr0
                      have hu0 := HPT.out (by omega) (by omega)
                      have u1 : decide (u ≤ (0 : Int)) = true := decide_eq_true hu0
                      have HCx := Lib.hid (alive_s _ HAV.out.ok)
                      go_wp2_with fail
                      refine HCx.out.mono ?_
                      rintro e w9 ⟨rfl, hb⟩
                      have HAV := Lib.hid (HAV.out.step hb)
                      clear hb
                      go_wp2_with fail
                      go_ret
                      exact ⟨rfl, HAV.out.low⟩
                  · obtain rfl : p = 0 := by omega
                    have hab := HPZ.out.1 rfl
                    have q2 : (fa.toList == fb.toList) = true := by rw [hab]; simp
                    have q3 : (fa.toList != fb.toList) = false := by rw [hab]; simp
                    clear hab
                    by_cases hr0 : 0 < r
                    · have r1 : decide ((0 : Int) < r) = true := decide_eq_true hr0
                      have HCx := Lib.hid (alive_s _ HAV.out.ok)
                      go_wp2_with fail
                      refine HCx.out.mono ?_
                      rintro e w9 ⟨rfl, hb⟩
                      have HAV := Lib.hid (HAV.out.step hb)
                      clear hb
                      go_wp2_with fail
                      go_ret
                      exact ⟨rfl, HAV.out.low⟩
                    · have r1 : decide ((0 : Int) < r) = false := decide_eq_false hr0
                      have hu0 := HPT.out (by omega) (by omega)
                      have u1 : decide (u ≤ (0 : Int)) = true := decide_eq_true hu0
                      have HCx := Lib.hid (alive_s _ HAV.out.ok)
                      go_wp2_with fail
                      refine HCx.out.mono ?_
                      rintro e w9 ⟨rfl, hb⟩
                      have HAV := Lib.hid (HAV.out.step hb)
                      clear hb
                      go_wp2_with fail
                      go_ret
                      exact ⟨rfl, HAV.out.low⟩
                  · obtain rfl : p = 1 := by omega
                    have hab : fa ≠ fb := fun h => by have := HPZ.out.2 h; omega
                    have q2 : (fa.toList == fb.toList) = false := by rw [Lib.toList_data, Lib.toList_data]; exact beq_false_of_ne (fun h => hab (ba_ext h))
                    have q3 : (fa.toList != fb.toList) = true := by unfold bne; rw [q2]; rfl
                    clear hab
                    have HCx := Lib.hid (alive_s _ HAV.out.ok)
                    go_wp2_with fail
                    refine HCx.out.mono ?_
                    rintro e w9 ⟨rfl, hb⟩
                    have HAV := Lib.hid (HAV.out.step hb)
                    clear hb
                    go_wp2_with fail
                    go_ret
                    exact ⟨rfl, HAV.out.low⟩
                · have kc : (ec != 0) = true := by simpa using zc
                  have HCx := Lib.hid (alive_s _ HAV.out.ok)
                  go_wp2_with fail
                  refine HCx.out.mono ?_
                  rintro e w9 ⟨rfl, hb⟩
                  have HAV := Lib.hid (HAV.out.step hb)
                  clear hb
                  go_wp2_with fail
                  go_ret
                  exact ⟨rfl, HAV.out.low⟩
              · have kb : (eb != 0) = true := by simpa using zb
                have HCx := Lib.hid (alive_s _ HAV.out.ok)
                go_wp2_with fail
                refine HCx.out.mono ?_
                rintro e w9 ⟨rfl, hb⟩
                have HAV := Lib.hid (HAV.out.step hb)
                clear hb
                go_wp2_with fail
                go_ret
                exact ⟨rfl, HAV.out.low⟩
            · have ka : (ea != 0) = true := by simpa using za
              have HCx := Lib.hid (alive_s _ HAV.out.ok)
              go_wp2_with fail
              refine HCx.out.mono ?_
              rintro e w9 ⟨rfl, hb⟩
              have HAV := Lib.hid (HAV.out.step hb)
              clear hb
              go_wp2_with fail
              go_ret
              exact ⟨rfl, HAV.out.low⟩

end Go.Proofs.YtclfjdnemafmeaaGreatDoor
end

section
/-
  normal forms are their own normal forms, and schema.Compare orders the values by them, for every schema and every three values. No condition.
-/
set_option maxRecDepth 100000
set_option linter.unusedVariables false
set_option linter.unusedSimpArgs false
set_option linter.unnecessarySimpa false
namespace Go.Proofs.YtclfjdnemafmeaaGreatDoor
open Go.ChangeShapes Go.WideShapes Go.ChangeAt Go.RowKit Go.PlainAid
open Go.ChangeMaps (open_string shut_string)


theorem lorders_types : ∀ t ∈ [25, 40], Tryz.prog.readableRec t = true ∧ t < Tryz.prog.types.size := by
  have h : ([25, 40].all fun t => Tryz.prog.readableRec t && decide (t < Tryz.prog.types.size)) = true := by kernel_rfl
  intro t ht
  have := List.all_eq_true.1 h t ht
  simpa using this

theorem lorders_contract (H : Type) (enc : TypeId × Value → H) (W : World) (base : Nat) (args : Array Value) (ds gs : List (DataW H)) (before : List MemPlace)
    (hval : ∀ (j : Nat) t v, Tryz.f9.params[j]? = some t → args[j]? = some v → Value.okWide Tryz.prog W .any base t v)
    (hW : DataW.Whole enc Tryz.prog Tryz.f9.params.toList Rows.schemaOrdersSpec.vars false W args.toList ds gs before)
    (hsz0 : (DataW.weightsEach Tryz.prog (Tryz.f9.params.toList ++ (OpenSpec.ofChange Rows.schemaOrdersSpec).bare.plain.varTypes Tryz.prog) (ds ++ gs)).all (· ≤ reachBytes) = true)
    (hL : laidMetH Tryz.prog Rows.schemaOrdersRow.laid W) (hsh : W.ShapedOpen Tryz.prog) :
    Calls Tryz.prog 9 args W fun e W' => ∃ v, e = .returned v ∧ Rows.schemaOrdersSpec.post enc Tryz.prog Tryz.f9 false true false false W args v W' := by
  have hW' := hW
  obtain ⟨p, q, hA0, hV, rfl, hfz, hnd⟩ := hW
  have hA : DataW.TrodAll enc Tryz.prog W 0 (fun _ => true) true Tryz.f9.params.toList args.toList ds p := hA0
  obtain ⟨rfl, rfl⟩ := trodVars_none hV
  simp only [List.append_nil] at hW'
  have hlt : ∀ x ∈ p, x.block < W.heap.size := fun x hx => by simpa using hW'.lt x hx
  have fin : ∀ W', Below W.heap.size W W' → DataW.TrodAll enc Tryz.prog W' 0 (fun b => decide (b < W.heap.size)) true [25, 40] args.toList ds p := fun W' hb => by
    rw [Tryz.params9] at hA
    exact trodAll_below hb _ _ _ _ lorders_types hA hlt
  clear hA0
  rw [Tryz.params9] at hA hval hsz0
  rw [show (OpenSpec.ofChange Rows.schemaOrdersSpec).bare.plain.varTypes Tryz.prog = [] from rfl, List.append_nil, List.append_nil] at hsz0
  obtain ⟨v0, vs0, d0, ds0, p0, q0, hargs, rfl, hp0, h0, r0⟩ := trodAll_cons hA
  obtain ⟨v1, vs1, d1, ds1, p1, q1, rfl, rfl, hp1, h1, r1⟩ := trodAll_cons r0
  obtain ⟨rfl, rfl, rfl⟩ := trodAll_nil r1
  obtain rfl : args = #[v0, v1] := by cases args; simp_all
  have hsz : (DataW.weightsEach Tryz.prog [25, 40] [d0, d1]).all (fun x => decide (x ≤ reachBytes)) = true := by simpa using hsz0
  clear hsz0
  obtain ⟨to, tn, tc, ts, co, cn, cc, cs, rfl, ht0, rt0, hc0, rc0⟩ := open_schemaR (hval 0 25 v0 rfl rfl) h0 (fun n hn => by have := List.all_eq_true.1 hsz n (DataW.weights_mem_each (j := 0) (t := 25) rfl rfl n hn); exact of_decide_eq_true this)
  obtain ⟨xn, xa, xb, xc, rfl, hx0, hx1, hx2, hx3⟩ := open_caseR (hval 1 40 v1 rfl rfl) h1 (fun n hn => by have := List.all_eq_true.1 hsz n (DataW.weights_mem_each (j := 1) (t := 40) rfl rfl n hn); exact of_decide_eq_true this)
  refine (lorders_s to tn tc ts co cn cc cs xn xa xb xc W ht0 rt0 hc0 rc0 hx0 hx1 hx2 hx3 (sok hL hsh)).mono fun e W' ⟨he, hb⟩ => ?_
  subst he
  exact ⟨_, rfl, _, _, _, [], p, [], hW', trodAll_mk1 (shut_bool Tryz.underlying4 _), fin W' hb, rfl, hb.frame _, fun h => by cases h⟩

theorem lorders_lifted (os : Os) (started : os.Started) (H : Type) (enc : TypeId × Value → H) (F : Stop.Interp) :
    ReturnsInHanded {} Tryz.checked os 9 .any ((OpenSpec.ofChange Rows.schemaOrdersSpec).preRow enc Tryz.prog Tryz.f9 Rows.schemaOrdersRow.domain false Rows.schemaOrdersRow.laid) (((OpenSpec.ofChange Rows.schemaOrdersSpec).at F).post enc Tryz.prog Tryz.f9 false true false false) := by
  refine returnsInHanded_of_row (C := Tryz.checked) (s := OpenSpec.ofChange Rows.schemaOrdersSpec) own started (by kernel_rfl) Tryz.func9
    (witness_row (enc := enc) (C := Tryz.checked) false (World.laidAll Tryz.prog os Rows.schemaOrdersRow.laid) #[.agg #[.slice none 0 0, .slice none 0 0], .agg #[.string ⟨#[]⟩, .string ⟨#[]⟩, .string ⟨#[]⟩, .string ⟨#[]⟩]] (World.laidAll_os _ _ _)
      (World.shaped_of_ZipB (by kernel_rfl) (by kernel_rfl)) (by kernel_rfl)
      (OpenSpec.preRow_of_cond 8 (x := ([.agg [.nil, .nil], .agg [.lit (.string []), .lit (.string []), .lit (.string []), .lit (.string [])]], [], [])) (by kernel_rfl) (by kernel_rfl) (fun k hk => by cases hk) (by kernel_rfl)
        (by rw [MakeChecks.laidMetH_plain _ _ _ (by kernel_rfl)]; exact laidMet_laidAll _ (by kernel_rfl) (by kernel_rfl)))) ?_
  intro W base args ds gs before hval hW _ _ hsz hL hsh _
  exact lorders_contract H enc W base args ds gs before hval hW hsz hL hsh

theorem lorders_said : Rows.SchemaOrdersSaid :=
  OpenClaim.holds_of_cond 9 Tryz.f9 rfl rfl rfl rfl rfl rfl rfl ⟨rfl, rfl, rfl, rfl, rfl⟩ rfl rfl rfl rfl rfl (by kernel_rfl) Tryz.func9 (by kernel_rfl)
    (of_decide_eq_true (by kernel_rfl)) (by unfold Func.isWrapper; first | (rw [if_pos (by decide +kernel)]; kernel_rfl) | (rw [if_neg (by decide +kernel)]; exact ⟨rfl, rfl⟩))
    (fun os started H enc _ F => by rw [OpenClaim.pre_eq_preRow]; exact lorders_lifted os started H enc F)

theorem lorders_plain (f : FuncId) (fn : Func) (hf : Tryz.pinned.checked.prog.funcNamed "identity/identitylaw07.SchemaOrders" = some f) (hfn : Tryz.pinned.checked.prog.funcs[f]? = some fn) :
    true = Tryz.pinned.checked.prog.looks [] ∧ ∀ (j : Nat) t, fn.params[j]? = some t → Tryz.pinned.checked.prog.wantsStandIn t = false := by
  obtain rfl : f = 9 := Option.some.inj ((show Tryz.prog.funcNamed "identity/identitylaw07.SchemaOrders" = some 9 by kernel_rfl).symm.trans hf) |>.symm
  obtain rfl : fn = Tryz.f9 := (Option.some.inj (Tryz.func9.symm.trans hfn)).symm
  refine ⟨by kernel_rfl, fun j t ht => ?_⟩
  rw [Tryz.params9] at ht
  have hm : t ∈ [25, 40] := by simpa using Array.mem_of_getElem? ht
  have hall : ([25, 40].all fun u => !Tryz.prog.wantsStandIn u) = true := by kernel_rfl
  exact (show Tryz.prog.wantsStandIn t = false by simpa using List.all_eq_true.1 hall t hm)

/-- THE CARD -/
theorem lorders_card : Rows.SchemaOrdersCardSaid :=
  Claim7.holds_tied_plain_at .later [] _ _ _ _ lorders_said (fun _ h => by cases h) (by kernel_rfl) (fun _ h => by cases h) schemaOrders_row_tie rfl ⟨rfl, rfl⟩ (by kernel_rfl) rfl lorders_plain (by kernel_rfl)
end Go.Proofs.YtclfjdnemafmeaaGreatDoor
end
