/-
  schema.Parse of what schema.Text returns is the schema, and schema.Text of what schema.Parse returns is the string, for every schema and every string. No condition.
-/
import Derived.Test.YtclfjdnemafmeaaGreatDoorQ31
set_option linter.unusedVariables false
set_option linter.unusedSimpArgs false
set_option linter.unnecessarySimpa false

section
/-
  The walk of SchemaReturns. No condition.
-/
set_option maxRecDepth 100000
set_option linter.unusedVariables false
set_option linter.unusedSimpArgs false
set_option linter.unnecessarySimpa false
namespace Go.Proofs.YtclfjdnemafmeaaGreatDoor
open Go.RowKit Go.PlainAid

set_option maxHeartbeats 16000000 in
theorem lreturns_s (tO : Option Addr) (tn tc : Nat) (ts : List Ty) (co : Option Addr) (cn cc : Nat) (cs : List Cl) (tx : ByteArray) (W : World) (HT : TysAt W tO tn tc ts) (RT : RTy ts) (HC : ClsAt W co cn cc cs) (RC : RCl cs) (Mtx : tx.size ≤ maxLen) (hok : SOk W) :
    Calls Tryz.prog 8 #[.agg #[.slice tO tn tc, .slice co cn cc], .string tx] W fun e w' => e = .returned (.bool true) ∧ Below W.heap.size W w' := by
  have HO := Lib.hid hok
  clear hok
  have a0 := below_al W (.cells #[.slice tO tn tc, .slice co cn cc] 25)
  have HK0 : Hid (Kb (W.alloc (.cells #[.slice tO tn tc, .slice co cn cc] 25)) W.heap.size (.cells #[.slice tO tn tc, .slice co cn cc] 25)) := Lib.hid (kbl_new W _)
  have HI := Lib.hid (And.intro HT HC)
  have HFew := Lib.hid (few_s tO tn tc ts co cn cc cs _ (HT.below a0) RT (HC.below a0) RC)
  have HLow := Lib.hid a0
  clear HT HC RT RC a0 
  have c0 := HK0.out.cell (i := 0) rfl
  have c1 := HK0.out.cell (i := 1) rfl
  go_enter Tryz.func8, Tryz.ntmps8
  go_wp2_with fail
  refine HFew.out.mono ?_
  rintro e w1 ⟨⟨g, rfl, hg, hb⟩⟩
  have HK0 := Lib.hid (HK0.out.step hb)
  have HLow := Lib.hid (HLow.out.trans (hb.mono HLow.out.size))
  have HO := Lib.hid (HO.out.below HLow.out)
  clear hb HFew c0 c1
  cases g
  · have HCx := Lib.hid (alive_s _ HO.out)
    go_wp2_with fail
    refine HCx.out.mono ?_
    rintro e w9 ⟨rfl, hb⟩
    have HLow := Lib.hid (HLow.out.trans (hb.mono HLow.out.size))
    clear hb
    go_wp2_with fail
    go_ret
    exact ⟨rfl, HLow.out⟩
  · have HG := Lib.hid (hg rfl)
    clear hg
    have HAV : Hid (AV W w1 W.heap.size tO tn tc co cn cc ts cs) := Lib.hid ⟨HK0.out, ⟨_, _, _, _, _, _, rfl, HI.out.1.below HLow.out, HI.out.2.below HLow.out, HG.out.smT, HG.out.smC⟩, HO.out, HLow.out⟩
    clear HK0
    have c0 := HAV.out.box.cell (i := 0) rfl
    have c1 := HAV.out.box.cell (i := 1) rfl
    by_cases Ln : 600 < tx.size
    · have Dn : decide ((600 : Int) < (tx.size : Int)) = true := decide_eq_true (by omega)
      have HCx := Lib.hid (alive_s _ HAV.out.ok)
      go_wp2_with fail
      refine HCx.out.mono ?_
      rintro e w9 ⟨rfl, hb⟩
      have HAV := Lib.hid (HAV.out.step hb)
      clear hb
      go_wp2_with fail
      go_ret
      exact ⟨rfl, HAV.out.low⟩
    · have Dn : decide ((600 : Int) < (tx.size : Int)) = false := decide_eq_false (by omega)
      obtain ⟨te, hte⟩ : ∃ x, txtE ts cs = x := ⟨_, rfl⟩
      obtain ⟨tv, htv⟩ : ∃ x, txtV ts cs = x := ⟨_, rfl⟩
      have HTE := Lib.hid hte
      have HTV := Lib.hid htv
      clear hte htv
      by_cases zt : te = 0
      · subst zt
        have HRT := Lib.hid (ret_text HTE.out)
        rw [HTV.out] at HRT
        have ltv := HRT.out.2.2.2
        have HCx := Lib.hid (textF_s _ ts cs _ HAV.out.sch HAV.out.ok.so)
        rw [HTE.out, HTV.out] at HCx
        go_wp2_with fail
        refine HCx.out.mono ?_
        rintro e w2 ⟨rfl, hb⟩
        have HAV := Lib.hid (HAV.out.step hb)
        clear c0 c1
        clear hb HCx
        have c0 := HAV.out.box.cell (i := 0) rfl
        have c1 := HAV.out.box.cell (i := 1) rfl
        have HCx := Lib.hid (parseF_s tv _ (by omega) HAV.out.ok.mo HAV.out.ok.mo.lt HAV.out.ok.so)
        go_wp2_with fail
        refine HCx.out.mono ?_
        rintro e w3 hp
        unfold ParP at hp
        rw [HRT.out.1, HRT.out.2.1, HRT.out.2.2.1] at hp
        obtain ⟨y, rfl, hy, hb⟩ := hp
        have hy0 := hy
        obtain ⟨yo, yn, yc, yu, ym, yd, rfl, _⟩ := hy0
        have Hy := Lib.hid hy
        clear hy
        have HAV := Lib.hid (HAV.out.step hb)
        clear c0 c1
        clear hb HCx
        have c0 := HAV.out.box.cell (i := 0) rfl
        have c1 := HAV.out.box.cell (i := 1) rfl
        clear c0 c1
        have By : Hid (Kb (w3.alloc (.cells #[.slice yo yn yc, .slice yu ym yd] 25)) w3.heap.size (.cells #[.slice yo yn yc, .slice yu ym yd] 25)) := Lib.hid (kbl_new _ _)
        have HAV := Lib.hid (HAV.out.step (below_al w3 (.cells #[.slice yo yn yc, .slice yu ym yd] 25)))
        have Hy := Lib.hid (Hy.out.below (below_al w3 (.cells #[.slice yo yn yc, .slice yu ym yd] 25)))
        have c0 := HAV.out.box.cell (i := 0) rfl
        have c1 := HAV.out.box.cell (i := 1) rfl
        have y0 := By.out.cell (i := 0) rfl
        have y1 := By.out.cell (i := 1) rfl
        have HCx := Lib.hid (same_s _ _ ts cs _ Hy.out HAV.out.sch)
        go_wp2_with fail
        refine HCx.out.mono ?_
        rintro e w4 ⟨rfl, hb⟩
        have HAV := Lib.hid (HAV.out.step hb)
        have By := Lib.hid (By.out.step hb)
        have Hy := Lib.hid (Hy.out.below hb)
        clear c0 c1 y0 y1
        clear hb HCx
        have c0 := HAV.out.box.cell (i := 0) rfl
        have c1 := HAV.out.box.cell (i := 1) rfl
        have y0 := By.out.cell (i := 0) rfl
        have y1 := By.out.cell (i := 1) rfl
        clear c0 c1 y0 y1
        clear By Hy
        have c0 := HAV.out.box.cell (i := 0) rfl
        have c1 := HAV.out.box.cell (i := 1) rfl
        obtain ⟨pe, hpe⟩ : ∃ x, parE tx = x := ⟨_, rfl⟩
        obtain ⟨pn, hpn⟩ : ∃ x, parN tx = x := ⟨_, rfl⟩
        have HPE := Lib.hid hpe
        have HPN := Lib.hid hpn
        clear hpe hpn
        by_cases zq : pe = 0
        · subst zq
          obtain ⟨T, hT⟩ : ∃ x, (parR tx).1 = x := ⟨_, rfl⟩
          obtain ⟨C, hC⟩ : ∃ x, (parR tx).2 = x := ⟨_, rfl⟩
          have HRB := Lib.hid (ret_back HPE.out)
          have HTC := Lib.hid (And.intro hT hC)
          rw [hT, hC] at HRB
          clear hT hC
          have HCx := Lib.hid (parseF_s tx _ (by omega) HAV.out.ok.mo HAV.out.ok.mo.lt HAV.out.ok.so)
          go_wp2_with fail
          refine HCx.out.mono ?_
          rintro e w5 hp
          unfold ParP at hp
          rw [HPE.out, HPN.out, HTC.out.1, HTC.out.2] at hp
          obtain ⟨g, rfl, hg, hb⟩ := hp
          have hg0 := hg
          obtain ⟨go, gn, gc, gu, gm, gd, rfl, _⟩ := hg0
          have Hg := Lib.hid hg
          clear hg
          have HAV := Lib.hid (HAV.out.step hb)
          clear c0 c1
          clear hb HCx
          have c0 := HAV.out.box.cell (i := 0) rfl
          have c1 := HAV.out.box.cell (i := 1) rfl
          clear c0 c1
          have Bg : Hid (Kb (w5.alloc (.cells #[.slice go gn gc, .slice gu gm gd] 25)) w5.heap.size (.cells #[.slice go gn gc, .slice gu gm gd] 25)) := Lib.hid (kbl_new _ _)
          have HAV := Lib.hid (HAV.out.step (below_al w5 (.cells #[.slice go gn gc, .slice gu gm gd] 25)))
          have Hg := Lib.hid (Hg.out.below (below_al w5 (.cells #[.slice go gn gc, .slice gu gm gd] 25)))
          have c0 := HAV.out.box.cell (i := 0) rfl
          have c1 := HAV.out.box.cell (i := 1) rfl
          have g0 := Bg.out.cell (i := 0) rfl
          have g1 := Bg.out.cell (i := 1) rfl
          have HCx := Lib.hid (textF_s _ T C _ Hg.out HAV.out.ok.so)
          rw [HRB.out.1, HRB.out.2.1] at HCx
          go_wp2_with fail
          refine HCx.out.mono ?_
          rintro e w6 ⟨rfl, hb⟩
          have HAV := Lib.hid (HAV.out.step hb)
          have Bg := Lib.hid (Bg.out.step hb)
          have Hg := Lib.hid (Hg.out.below hb)
          clear c0 c1 g0 g1
          clear hb HCx
          have c0 := HAV.out.box.cell (i := 0) rfl
          have c1 := HAV.out.box.cell (i := 1) rfl
          have g0 := Bg.out.cell (i := 0) rfl
          have g1 := Bg.out.cell (i := 1) rfl
          have e1 : (tx.toList == tx.toList) = true := by simp
          have HCx := Lib.hid (checkF_s _ T C _ Hg.out)
          rw [HRB.out.2.2] at HCx
          go_wp2_with fail
          refine HCx.out.mono ?_
          rintro e w7 ⟨rfl, hb⟩
          have HAV := Lib.hid (HAV.out.step hb)
          have Bg := Lib.hid (Bg.out.step hb)
          have Hg := Lib.hid (Hg.out.below hb)
          clear c0 c1 g0 g1
          clear hb HCx
          have c0 := HAV.out.box.cell (i := 0) rfl
          have c1 := HAV.out.box.cell (i := 1) rfl
          have g0 := Bg.out.cell (i := 0) rfl
          have g1 := Bg.out.cell (i := 1) rfl
          have HCx := Lib.hid (alive_s _ HAV.out.ok)
          go_wp2_with fail
          refine HCx.out.mono ?_
          rintro e w9 ⟨rfl, hb⟩
          have HAV := Lib.hid (HAV.out.step hb)
          clear hb
          go_wp2_with fail
          go_ret
          exact ⟨rfl, HAV.out.low⟩
        · have kq : (pe != 0) = true := by simpa using zq
          have HPB := Lib.hid (par_bad (fun h => zq (HPE.out.symm.trans h)))
          have HCx := Lib.hid (parseF_s tx _ (by omega) HAV.out.ok.mo HAV.out.ok.mo.lt HAV.out.ok.so)
          go_wp2_with fail
          refine HCx.out.mono ?_
          rintro e w5 hp
          unfold ParP at hp
          rw [HPE.out, HPN.out, HPB.out] at hp
          obtain ⟨g, rfl, hg, hb⟩ := hp
          have hg0 := hg
          obtain ⟨go, gn, gc, gu, gm, gd, rfl, _⟩ := hg0
          have Hg := Lib.hid hg
          clear hg
          have HAV := Lib.hid (HAV.out.step hb)
          clear c0 c1
          clear hb HCx
          have c0 := HAV.out.box.cell (i := 0) rfl
          have c1 := HAV.out.box.cell (i := 1) rfl
          clear c0 c1
          have Bg : Hid (Kb (w5.alloc (.cells #[.slice go gn gc, .slice gu gm gd] 25)) w5.heap.size (.cells #[.slice go gn gc, .slice gu gm gd] 25)) := Lib.hid (kbl_new _ _)
          have HAV := Lib.hid (HAV.out.step (below_al w5 (.cells #[.slice go gn gc, .slice gu gm gd] 25)))
          have Hg := Lib.hid (Hg.out.below (below_al w5 (.cells #[.slice go gn gc, .slice gu gm gd] 25)))
          have c0 := HAV.out.box.cell (i := 0) rfl
          have c1 := HAV.out.box.cell (i := 1) rfl
          have g0 := Bg.out.cell (i := 0) rfl
          have g1 := Bg.out.cell (i := 1) rfl
          obtain ⟨_, _, _, _, _, _, hag, hg1, hg2, _⟩ := Hg.out
          have l1 := hg1.1
          have l2 := hg2.1
          injection hag with hag
          simp only [List.length_nil, Array.mk.injEq, List.cons.injEq, Value.slice.injEq, and_true] at l1 l2 hag
          obtain ⟨⟨rfl, rfl, rfl⟩, rfl, rfl, rfl⟩ := hag
          subst l1
          subst l2
          clear hg1 hg2
          have HCx := Lib.hid (alive_s _ HAV.out.ok)
          go_wp2_with fail
          refine HCx.out.mono ?_
          rintro e w9 ⟨rfl, hb⟩
          have HAV := Lib.hid (HAV.out.step hb)
          clear hb
          go_wp2_with fail
          go_ret
          exact ⟨rfl, HAV.out.low⟩
      · have kt : (te == 0) = false := by simpa using zt
        have HCx := Lib.hid (textF_s _ ts cs _ HAV.out.sch HAV.out.ok.so)
        rw [HTE.out, HTV.out] at HCx
        go_wp2_with fail
        refine HCx.out.mono ?_
        rintro e w2 ⟨rfl, hb⟩
        have HAV := Lib.hid (HAV.out.step hb)
        clear c0 c1
        clear hb HCx
        have c0 := HAV.out.box.cell (i := 0) rfl
        have c1 := HAV.out.box.cell (i := 1) rfl
        obtain ⟨pe, hpe⟩ : ∃ x, parE tx = x := ⟨_, rfl⟩
        obtain ⟨pn, hpn⟩ : ∃ x, parN tx = x := ⟨_, rfl⟩
        have HPE := Lib.hid hpe
        have HPN := Lib.hid hpn
        clear hpe hpn
        by_cases zq : pe = 0
        · subst zq
          obtain ⟨T, hT⟩ : ∃ x, (parR tx).1 = x := ⟨_, rfl⟩
          obtain ⟨C, hC⟩ : ∃ x, (parR tx).2 = x := ⟨_, rfl⟩
          have HRB := Lib.hid (ret_back HPE.out)
          have HTC := Lib.hid (And.intro hT hC)
          rw [hT, hC] at HRB
          clear hT hC
          have HCx := Lib.hid (parseF_s tx _ (by omega) HAV.out.ok.mo HAV.out.ok.mo.lt HAV.out.ok.so)
          go_wp2_with fail
          refine HCx.out.mono ?_
          rintro e w3 hp
          unfold ParP at hp
          rw [HPE.out, HPN.out, HTC.out.1, HTC.out.2] at hp
          obtain ⟨g, rfl, hg, hb⟩ := hp
          have hg0 := hg
          obtain ⟨go, gn, gc, gu, gm, gd, rfl, _⟩ := hg0
          have Hg := Lib.hid hg
          clear hg
          have HAV := Lib.hid (HAV.out.step hb)
          clear c0 c1
          clear hb HCx
          have c0 := HAV.out.box.cell (i := 0) rfl
          have c1 := HAV.out.box.cell (i := 1) rfl
          clear c0 c1
          have Bg : Hid (Kb (w3.alloc (.cells #[.slice go gn gc, .slice gu gm gd] 25)) w3.heap.size (.cells #[.slice go gn gc, .slice gu gm gd] 25)) := Lib.hid (kbl_new _ _)
          have HAV := Lib.hid (HAV.out.step (below_al w3 (.cells #[.slice go gn gc, .slice gu gm gd] 25)))
          have Hg := Lib.hid (Hg.out.below (below_al w3 (.cells #[.slice go gn gc, .slice gu gm gd] 25)))
          have c0 := HAV.out.box.cell (i := 0) rfl
          have c1 := HAV.out.box.cell (i := 1) rfl
          have g0 := Bg.out.cell (i := 0) rfl
          have g1 := Bg.out.cell (i := 1) rfl
          have HCx := Lib.hid (textF_s _ T C _ Hg.out HAV.out.ok.so)
          rw [HRB.out.1, HRB.out.2.1] at HCx
          go_wp2_with fail
          refine HCx.out.mono ?_
          rintro e w4 ⟨rfl, hb⟩
          have HAV := Lib.hid (HAV.out.step hb)
          have Bg := Lib.hid (Bg.out.step hb)
          have Hg := Lib.hid (Hg.out.below hb)
          clear c0 c1 g0 g1
          clear hb HCx
          have c0 := HAV.out.box.cell (i := 0) rfl
          have c1 := HAV.out.box.cell (i := 1) rfl
          have g0 := Bg.out.cell (i := 0) rfl
          have g1 := Bg.out.cell (i := 1) rfl
          have e1 : (tx.toList == tx.toList) = true := by simp
          have HCx := Lib.hid (checkF_s _ T C _ Hg.out)
          rw [HRB.out.2.2] at HCx
          go_wp2_with fail
          refine HCx.out.mono ?_
          rintro e w5 ⟨rfl, hb⟩
          have HAV := Lib.hid (HAV.out.step hb)
          have Bg := Lib.hid (Bg.out.step hb)
          have Hg := Lib.hid (Hg.out.below hb)
          clear c0 c1 g0 g1
          clear hb HCx
          have c0 := HAV.out.box.cell (i := 0) rfl
          have c1 := HAV.out.box.cell (i := 1) rfl
          have g0 := Bg.out.cell (i := 0) rfl
          have g1 := Bg.out.cell (i := 1) rfl
          have HCx := Lib.hid (alive_s _ HAV.out.ok)
          go_wp2_with fail
          refine HCx.out.mono ?_
          rintro e w9 ⟨rfl, hb⟩
          have HAV := Lib.hid (HAV.out.step hb)
          clear hb
          go_wp2_with fail
          go_ret
          exact ⟨rfl, HAV.out.low⟩
        · have kq : (pe != 0) = true := by simpa using zq
          have HPB := Lib.hid (par_bad (fun h => zq (HPE.out.symm.trans h)))
          have HCx := Lib.hid (parseF_s tx _ (by omega) HAV.out.ok.mo HAV.out.ok.mo.lt HAV.out.ok.so)
          go_wp2_with fail
          refine HCx.out.mono ?_
          rintro e w3 hp
          unfold ParP at hp
          rw [HPE.out, HPN.out, HPB.out] at hp
          obtain ⟨g, rfl, hg, hb⟩ := hp
          have hg0 := hg
          obtain ⟨go, gn, gc, gu, gm, gd, rfl, _⟩ := hg0
          have Hg := Lib.hid hg
          clear hg
          have HAV := Lib.hid (HAV.out.step hb)
          clear c0 c1
          clear hb HCx
          have c0 := HAV.out.box.cell (i := 0) rfl
          have c1 := HAV.out.box.cell (i := 1) rfl
          clear c0 c1
          have Bg : Hid (Kb (w3.alloc (.cells #[.slice go gn gc, .slice gu gm gd] 25)) w3.heap.size (.cells #[.slice go gn gc, .slice gu gm gd] 25)) := Lib.hid (kbl_new _ _)
          have HAV := Lib.hid (HAV.out.step (below_al w3 (.cells #[.slice go gn gc, .slice gu gm gd] 25)))
          have Hg := Lib.hid (Hg.out.below (below_al w3 (.cells #[.slice go gn gc, .slice gu gm gd] 25)))
          have c0 := HAV.out.box.cell (i := 0) rfl
          have c1 := HAV.out.box.cell (i := 1) rfl
          have g0 := Bg.out.cell (i := 0) rfl
          have g1 := Bg.out.cell (i := 1) rfl
          obtain ⟨_, _, _, _, _, _, hag, hg1, hg2, _⟩ := Hg.out
          have l1 := hg1.1
          have l2 := hg2.1
          injection hag with hag
          simp only [List.length_nil, Array.mk.injEq, List.cons.injEq, Value.slice.injEq, and_true] at l1 l2 hag
          obtain ⟨⟨rfl, rfl, rfl⟩, rfl, rfl, rfl⟩ := hag
          subst l1
          subst l2
          clear hg1 hg2
          have HCx := Lib.hid (alive_s _ HAV.out.ok)
          go_wp2_with fail
          refine HCx.out.mono ?_
          rintro e w9 ⟨rfl, hb⟩
          have HAV := Lib.hid (HAV.out.step hb)
          clear hb
          go_wp2_with fail
          go_ret
          exact ⟨rfl, HAV.out.low⟩

end Go.Proofs.YtclfjdnemafmeaaGreatDoor
end

section
/-
  schema.Parse of what schema.Text returns is the schema, and schema.Text of what schema.Parse returns is the string, for every schema and every string. No condition.
-/
set_option maxRecDepth 100000
set_option linter.unusedVariables false
set_option linter.unusedSimpArgs false
set_option linter.unnecessarySimpa false
namespace Go.Proofs.YtclfjdnemafmeaaGreatDoor
open Go.ChangeShapes Go.WideShapes Go.ChangeAt Go.RowKit Go.PlainAid
open Go.ChangeMaps (open_string shut_string)


theorem lreturns_types : ∀ t ∈ [25, 9], Tryz.prog.readableRec t = true ∧ t < Tryz.prog.types.size := by
  have h : ([25, 9].all fun t => Tryz.prog.readableRec t && decide (t < Tryz.prog.types.size)) = true := by kernel_rfl
  intro t ht
  have := List.all_eq_true.1 h t ht
  simpa using this

theorem lreturns_contract (H : Type) (enc : TypeId × Value → H) (W : World) (base : Nat) (args : Array Value) (ds gs : List (DataW H)) (before : List MemPlace)
    (hval : ∀ (j : Nat) t v, Tryz.f8.params[j]? = some t → args[j]? = some v → Value.okWide Tryz.prog W .any base t v)
    (hW : DataW.Whole enc Tryz.prog Tryz.f8.params.toList Rows.schemaReturnsSpec.vars false W args.toList ds gs before)
    (hsz0 : (DataW.weightsEach Tryz.prog (Tryz.f8.params.toList ++ (OpenSpec.ofChange Rows.schemaReturnsSpec).bare.plain.varTypes Tryz.prog) (ds ++ gs)).all (· ≤ reachBytes) = true)
    (hL : laidMetH Tryz.prog Rows.schemaReturnsRow.laid W) (hsh : W.ShapedOpen Tryz.prog) :
    Calls Tryz.prog 8 args W fun e W' => ∃ v, e = .returned v ∧ Rows.schemaReturnsSpec.post enc Tryz.prog Tryz.f8 false true false false W args v W' := by
  have hW' := hW
  obtain ⟨p, q, hA0, hV, rfl, hfz, hnd⟩ := hW
  have hA : DataW.TrodAll enc Tryz.prog W 0 (fun _ => true) true Tryz.f8.params.toList args.toList ds p := hA0
  obtain ⟨rfl, rfl⟩ := trodVars_none hV
  simp only [List.append_nil] at hW'
  have hlt : ∀ x ∈ p, x.block < W.heap.size := fun x hx => by simpa using hW'.lt x hx
  have fin : ∀ W', Below W.heap.size W W' → DataW.TrodAll enc Tryz.prog W' 0 (fun b => decide (b < W.heap.size)) true [25, 9] args.toList ds p := fun W' hb => by
    rw [Tryz.params8] at hA
    exact trodAll_below hb _ _ _ _ lreturns_types hA hlt
  clear hA0
  rw [Tryz.params8] at hA hval hsz0
  rw [show (OpenSpec.ofChange Rows.schemaReturnsSpec).bare.plain.varTypes Tryz.prog = [] from rfl, List.append_nil, List.append_nil] at hsz0
  obtain ⟨v0, vs0, d0, ds0, p0, q0, hargs, rfl, hp0, h0, r0⟩ := trodAll_cons hA
  obtain ⟨v1, vs1, d1, ds1, p1, q1, rfl, rfl, hp1, h1, r1⟩ := trodAll_cons r0
  obtain ⟨rfl, rfl, rfl⟩ := trodAll_nil r1
  obtain rfl : args = #[v0, v1] := by cases args; simp_all
  have hsz : (DataW.weightsEach Tryz.prog [25, 9] [d0, d1]).all (fun x => decide (x ≤ reachBytes)) = true := by simpa using hsz0
  clear hsz0
  obtain ⟨tO, tn, tc, ts, co, cn, cc, cs, rfl, ht0, rt0, hc0, rc0⟩ := open_schemaR (hval 0 25 v0 rfl rfl) h0 (fun n hn => by have := List.all_eq_true.1 hsz n (DataW.weights_mem_each (j := 0) (t := 25) rfl rfl n hn); exact of_decide_eq_true this)
  obtain ⟨tx, rfl, rfl, rfl, hs1⟩ := open_string Tryz.underlying9 (hval 1 9 v1 rfl rfl) h1
  refine (lreturns_s tO tn tc ts co cn cc cs tx W ht0 rt0 hc0 rc0 hs1 (sok hL hsh)).mono fun e W' ⟨he, hb⟩ => ?_
  subst he
  exact ⟨_, rfl, _, _, _, [], p, [], hW', trodAll_mk1 (shut_bool Tryz.underlying4 _), fin W' hb, rfl, hb.frame _, fun h => by cases h⟩

theorem lreturns_lifted (os : Os) (started : os.Started) (H : Type) (enc : TypeId × Value → H) (F : Stop.Interp) :
    ReturnsInHanded {} Tryz.checked os 8 .any ((OpenSpec.ofChange Rows.schemaReturnsSpec).preRow enc Tryz.prog Tryz.f8 Rows.schemaReturnsRow.domain false Rows.schemaReturnsRow.laid) (((OpenSpec.ofChange Rows.schemaReturnsSpec).at F).post enc Tryz.prog Tryz.f8 false true false false) := by
  refine returnsInHanded_of_row (C := Tryz.checked) (s := OpenSpec.ofChange Rows.schemaReturnsSpec) own started (by kernel_rfl) Tryz.func8
    (witness_row (enc := enc) (C := Tryz.checked) false (World.laidAll Tryz.prog os Rows.schemaReturnsRow.laid) #[.agg #[.slice none 0 0, .slice none 0 0], .string ⟨#[]⟩] (World.laidAll_os _ _ _)
      (World.shaped_of_ZipB (by kernel_rfl) (by kernel_rfl)) (by kernel_rfl)
      (OpenSpec.preRow_of_cond 8 (x := ([.agg [.nil, .nil], .lit (.string [])], [], [])) (by kernel_rfl) (by kernel_rfl) (fun k hk => by cases hk) (by kernel_rfl)
        (by rw [MakeChecks.laidMetH_plain _ _ _ (by kernel_rfl)]; exact laidMet_laidAll _ (by kernel_rfl) (by kernel_rfl)))) ?_
  intro W base args ds gs before hval hW _ _ hsz hL hsh _
  exact lreturns_contract H enc W base args ds gs before hval hW hsz hL hsh

theorem lreturns_said : Rows.SchemaReturnsSaid :=
  OpenClaim.holds_of_cond 8 Tryz.f8 rfl rfl rfl rfl rfl rfl rfl ⟨rfl, rfl, rfl, rfl, rfl⟩ rfl rfl rfl rfl rfl (by kernel_rfl) Tryz.func8 (by kernel_rfl)
    (of_decide_eq_true (by kernel_rfl)) (by unfold Func.isWrapper; first | (rw [if_pos (by decide +kernel)]; kernel_rfl) | (rw [if_neg (by decide +kernel)]; exact ⟨rfl, rfl⟩))
    (fun os started H enc _ F => by rw [OpenClaim.pre_eq_preRow]; exact lreturns_lifted os started H enc F)

theorem lreturns_plain (f : FuncId) (fn : Func) (hf : Tryz.pinned.checked.prog.funcNamed "identity/identitylaw07.SchemaReturns" = some f) (hfn : Tryz.pinned.checked.prog.funcs[f]? = some fn) :
    true = Tryz.pinned.checked.prog.looks [] ∧ ∀ (j : Nat) t, fn.params[j]? = some t → Tryz.pinned.checked.prog.wantsStandIn t = false := by
  obtain rfl : f = 8 := Option.some.inj ((show Tryz.prog.funcNamed "identity/identitylaw07.SchemaReturns" = some 8 by kernel_rfl).symm.trans hf) |>.symm
  obtain rfl : fn = Tryz.f8 := (Option.some.inj (Tryz.func8.symm.trans hfn)).symm
  refine ⟨by kernel_rfl, fun j t ht => ?_⟩
  rw [Tryz.params8] at ht
  have hm : t ∈ [25, 9] := by simpa using Array.mem_of_getElem? ht
  have hall : ([25, 9].all fun u => !Tryz.prog.wantsStandIn u) = true := by kernel_rfl
  exact (show Tryz.prog.wantsStandIn t = false by simpa using List.all_eq_true.1 hall t hm)

/-- THE CARD -/
theorem lreturns_card : Rows.SchemaReturnsCardSaid :=
  Claim7.holds_tied_plain_at .later [] _ _ _ _ lreturns_said (fun _ h => by cases h) (by kernel_rfl) (fun _ h => by cases h) schemaReturns_row_tie rfl ⟨rfl, rfl⟩ (by kernel_rfl) rfl lreturns_plain (by kernel_rfl)
end Go.Proofs.YtclfjdnemafmeaaGreatDoor
end
