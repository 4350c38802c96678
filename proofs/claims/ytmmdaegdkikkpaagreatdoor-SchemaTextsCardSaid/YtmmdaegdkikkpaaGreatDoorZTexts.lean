/-
  schema.Text and schema.Parse return the specified results, for every schema and every string. No condition.
-/
import Derived.BigQuiet
import Derived.Deep.DeepCutAuto
import Derived.WalkKit
import Derived.Test.YtmmdaegdkikkpaaGreatDoorP18
import Derived.Test.YtmmdaegdkikkpaaGreatDoorP21
set_option linter.unusedVariables false
set_option linter.unusedSimpArgs false
set_option linter.unnecessarySimpa false

section
/-
  Contract of the specification's Same, where the two schemas hold the same. No condition.
-/
set_option maxRecDepth 100000
set_option linter.unusedVariables false
set_option linter.unusedSimpArgs false
set_option linter.unnecessarySimpa false
namespace Go.Proofs.YtmmdaegdkikkpaaGreatDoor
open Go.RowKit Go.PlainAid

/-- the boxes of Same -/
structure SaB (w W : World) (ao : Option Addr) (cap n : Nat) (bo : Option Addr) (dap m : Nat) (co : Option Addr) (eap : Nat) (do_ : Option Addr) (fap : Nat) : Prop where
  k0 : Kb W w.heap.size (.cells #[.slice ao n cap, .slice bo m dap] 25)
  k1 : Kb W (w.heap.size + 1) (.cells #[.slice co n eap, .slice do_ m fap] 25)
  low : Below w.heap.size w W
theorem SaB.step {w W V : World} {ao : Option Addr} {cap n : Nat} {bo : Option Addr} {dap m : Nat} {co : Option Addr} {eap : Nat} {do_ : Option Addr} {fap : Nat} (h : SaB w W ao cap n bo dap m co eap do_ fap) (hb : Below W.heap.size W V) : SaB w V ao cap n bo dap m co eap do_ fap :=
  ⟨h.k0.step hb, h.k1.step hb, h.low.trans (hb.mono h.low.size)⟩
theorem SaB.cells {w W : World} {ao : Option Addr} {cap n : Nat} {bo : Option Addr} {dap m : Nat} {co : Option Addr} {eap : Nat} {do_ : Option Addr} {fap : Nat} (h : SaB w W ao cap n bo dap m co eap do_ fap) :
    W.cell? ⟨w.heap.size, 0, none⟩ = some (.slice ao n cap) ∧ W.cell? ⟨w.heap.size, 1, none⟩ = some (.slice bo m dap) ∧ W.cell? ⟨w.heap.size + 1, 0, none⟩ = some (.slice co n eap) ∧ W.cell? ⟨w.heap.size + 1, 1, none⟩ = some (.slice do_ m fap) :=
  ⟨h.k0.cell rfl, h.k0.cell rfl, h.k1.cell rfl, h.k1.cell rfl⟩
theorem saB_new (w : World) (ao : Option Addr) (cap n : Nat) (bo : Option Addr) (dap m : Nat) (co : Option Addr) (eap : Nat) (do_ : Option Addr) (fap : Nat) :
    SaB w ((w.alloc (.cells #[.slice ao n cap, .slice bo m dap] 25)).alloc (.cells #[.slice co n eap, .slice do_ m fap] 25)) ao cap n bo dap m co eap do_ fap :=
  ⟨(kbl_new w _).step (below_al _ _), by have := kbl_new (w.alloc (.cells #[.slice ao n cap, .slice bo m dap] 25)) (.cells #[.slice co n eap, .slice do_ m fap] 25); simpa using this, (below_al w _).trans ((below_al _ _).mono (by simp))⟩

theorem below_drewN (w : World) (q : Nat) : Below w.heap.size w (w.drewN q) := ⟨rfl, rfl, rfl, Nat.le_refl _, fun _ _ => rfl⟩
theorem two_al (W : World) (o o' : Obj) : Kb ((W.alloc o).alloc o').drew W.heap.size o ∧ Kb ((W.alloc o).alloc o').drew (W.heap.size + 1) o' ∧ Below W.heap.size W ((W.alloc o).alloc o').drew :=
  ⟨((kbl_new W o).step (below_al _ o')).step (Below.refl _ _).drew, by have := kbl_new (W.alloc o) o'; exact Kb.step (by simpa using this) (Below.refl _ _).drew, ((below_al W o).trans ((below_al _ o').mono (by simp))).drew⟩
set_option maxHeartbeats 8000000 in
theorem schSame_s (u v : Value) (ts : List Ty) (cs : List Cl) (w : World) (h : SchV w u ts cs) (k : SchV w v ts cs) :
    Calls Tryz.prog 19 #[u, v] w fun e w' => e = .returned (.bool true) ∧ Below w.heap.size w w' := by
  obtain ⟨ao, n, cap, bo, m, dap, rfl, hT, hC, _, _⟩ := h
  obtain ⟨co, n', eap, do_, m', fap, rfl, hU, hD, _, _⟩ := k
  obtain rfl := hT.1.symm.trans hU.1
  obtain rfl := hC.1.symm.trans hD.1
  have HT := Lib.hid (And.intro hT hU)
  have HC := Lib.hid (And.intro hC hD)
  have htx := hT.2.2.1
  have hcx := hC.2.2.1
  have htn := hT.2.1
  have hcn := hC.2.1
  unfold maxLen at htx hcx
  have HTL := Lib.hid hT.1
  have HCL := Lib.hid hC.1
  clear hT hC hU hD
  have HK0 := Lib.hid (saB_new w ao cap n bo dap m co eap do_ fap)
  have n0 : ((n : Int) != (n : Int)) = false := by simp
  have m0 : ((m : Int) != (m : Int)) = false := by simp
  go_enter Tryz.func19, Tryz.ntmps19
  go_wp2_with fail
  generalize (w.alloc (.cells #[.slice ao n cap, .slice bo m dap] 25)).alloc (.cells #[.slice co n eap, .slice do_ m fap] 25) = W1 at HK0 ⊢
  go_loopw [5] (fun i wr => ∃ k : Nat, k ≤ n ∧ i = .int .i64 k ∧ Hid (SaB w wr ao cap n bo dap m co eap do_ fap)) (fun i _ => n - (intOf i).toNat)
  case atStart => exact ⟨0, Nat.zero_le _, rfl, HK0⟩
  case round =>
    obtain ⟨k, hk, rfl, HKj⟩ := hrel
    obtain ⟨c0, c1, c2, c3⟩ := HKj.out.cells
    by_cases hlt : k < n
    · have d1 : decide ((k : Int) < (n : Int)) = true := decide_eq_true (by omega)
      have d0 : (0 : Int) ≤ (k : Int) := by omega
      have d3 : (k : Int) < (n : Int) := by omega
      obtain ⟨b, off, rfl, hbl, hs⟩ := (HT.out.1.below HKj.out.low).2.2.2 (by omega)
      obtain ⟨c, off2, rfl, hcl, hs2⟩ := (HT.out.2.below HKj.out.low).2.2.2 (by omega)
      have g1 := hs k hlt
      have g2 := hs2 k hlt
      clear hs hs2
      obtain ⟨T, hT⟩ : ∃ x, tyAt ts k = x := ⟨_, rfl⟩
      rw [hT] at g1 g2
      clear hT
      obtain ⟨p, x, sg⟩ := T
      obtain ⟨y0, y1, y2⟩ := g1
      obtain ⟨z0, z1, z2⟩ := g2
      simp only at y0 y1 y2 z0 z1 z2
      have e1 : (p.toList == p.toList) = true := by simp
      have e2 : (x == x) = true := by simp
      have e3 : (sg == sg) = true := by simp
      go_wp2_with fail
      go_quiet (fail)
      go_wp2_with fail
      go_roundw
      case rel => exact ⟨k + 1, by omega, by go_num, Lib.hid (HKj.out.step (below_drewN _ _))⟩
      case measure => simp [intOf]; omega
    · obtain rfl : n = k := by omega
      have d1 : decide ((n : Int) < (n : Int)) = false := decide_eq_false (by omega)
      have HKj0 := Lib.hid HKj.out
      go_wp2_with fail
      clear d1 HKj c0 c1 c2 c3 hk hlt
      go_loopw [6, 7, 8] (fun i s7 s8 wr => ∃ k : Nat, k ≤ m ∧ i = .int .i64 k ∧ Hid (SaB w wr ao cap n bo dap m co eap do_ fap)) (fun i _ _ _ => m - (intOf i).toNat)
      case atStart => exact ⟨0, Nat.zero_le _, rfl, HKj0⟩
      case round =>
        clear HKj0
        obtain ⟨k, hk, rfl, HKj⟩ := hrel
        obtain ⟨c0, c1, c2, c3⟩ := HKj.out.cells
        by_cases hlt : k < m
        · have d1 : decide ((k : Int) < (m : Int)) = true := decide_eq_true (by omega)
          have d0 : (0 : Int) ≤ (k : Int) := by omega
          have d3 : (k : Int) < (m : Int) := by omega
          obtain ⟨b, off, rfl, hbl, hs⟩ := (HC.out.1.below HKj.out.low).2.2.2 (by omega)
          obtain ⟨c, off2, rfl, hcl, hs2⟩ := (HC.out.2.below HKj.out.low).2.2.2 (by omega)
          have g1 := hs k hlt
          have g2 := hs2 k hlt
          clear hs hs2
          obtain ⟨C, hC⟩ : ∃ x, clAt cs k = x := ⟨_, rfl⟩
          rw [hC] at g1 g2
          clear hC
          obtain ⟨cn, sup, mu, ma⟩ := C
          obtain ⟨y0, y1, ⟨a1, p1, q1, y2, hS1⟩, a2, p2, q2, y3, hS2⟩ := g1
          obtain ⟨z0, z1, ⟨b1, r1, t1, z2, hR1⟩, b2, r2, t2, z3, hR2⟩ := g2
          simp only at y0 y1 y2 y3 z0 z1 z2 z3 hS1 hS2 hR1 hR2
          have HL := Lib.hid (And.intro (And.intro hS1 hR1) (And.intro hS2 hR2))
          clear hS1 hR1 hS2 hR2
          have e1 : (cn.toList == cn.toList) = true := by simp
          have e2 : (sup.toList == sup.toList) = true := by simp
          have hq0 := HKj.out.k0.big
          have hq1 := HKj.out.k1.big
          go_wp2_with fail
          go_cut [7, 8] (fun s7 s8 wx => ∃ b7 b8, s7 = .pointer (some ⟨b7, 0, none⟩) ∧ s8 = .pointer (some ⟨b8, 0, none⟩) ∧ Hid (Kb wx b7 (.cells #[.string cn, .string sup, .slice a1 p1 q1, .slice a2 p2 q2] 64) ∧ Kb wx b8 (.cells #[.string cn, .string sup, .slice b1 r1 t1, .slice b2 r2 t2] 64) ∧ Below wr.heap.size wr wx))
          case first =>
            go_big_region
            all_goals go_wp2_with fail
            · go_meet
              have hq := two_al wr (.cells #[.string cn, .string sup, .slice a1 p1 q1, .slice a2 p2 q2] 64) (.cells #[.string cn, .string sup, .slice b1 r1 t1, .slice b2 r2 t2] 64)
              exact ⟨_, _, rfl, rfl, Lib.hid hq⟩
            · go_meet
              have hq := two_al wr (.cells #[.string cn, .string sup, .slice b1 r1 t1, .slice b2 r2 t2] 64) (.cells #[.string cn, .string sup, .slice a1 p1 q1, .slice a2 p2 q2] 64)
              exact ⟨_, _, rfl, rfl, Lib.hid ⟨hq.2.1, hq.1, hq.2.2⟩⟩
          case rest =>
            obtain ⟨b7, b8, rfl, rfl, HQ⟩ := hcut
            have HKx := Lib.hid (HKj.out.step HQ.out.2.2)
            have HX := Lib.hid (And.intro HQ.out.1 HQ.out.2.1)
            have HS1 := Lib.hid (lists_same wc ⟨_, _, _, rfl, HL.out.1.1.below HQ.out.2.2⟩ ⟨_, _, _, rfl, HL.out.1.2.below HQ.out.2.2⟩)
            clear c0 c1 c2 c3 y0 y1 y2 y3 z0 z1 z2 z3
            obtain ⟨c0, c1, c2, c3⟩ := HKx.out.cells
            have x0 := HX.out.1.cell (i := 0) rfl
            have x1 := HX.out.1.cell (i := 1) rfl
            have x2 := HX.out.1.cell (i := 2) rfl
            have x3 := HX.out.1.cell (i := 3) rfl
            have v0 := HX.out.2.cell (i := 0) rfl
            have v1 := HX.out.2.cell (i := 1) rfl
            have v2 := HX.out.2.cell (i := 2) rfl
            have v3 := HX.out.2.cell (i := 3) rfl
            go_wp2_with fail
            refine HS1.out.mono ?_
            rintro e w5 ⟨rfl, hb⟩
            have HKy := Lib.hid (HKx.out.step hb)
            have HX := Lib.hid (And.intro (HX.out.1.step hb) (HX.out.2.step hb))
            have HB5 := Lib.hid (HQ.out.2.2.trans (hb.mono HQ.out.2.2.size))
            have HS2 := Lib.hid (lists_same w5 ⟨_, _, _, rfl, HL.out.2.1.below HB5.out⟩ ⟨_, _, _, rfl, HL.out.2.2.below HB5.out⟩)
            clear c0 c1 c2 c3 x0 x1 x2 x3 v0 v1 v2 v3 hb
            obtain ⟨c0, c1, c2, c3⟩ := HKy.out.cells
            have x2 := HX.out.1.cell (i := 2) rfl
            have x3 := HX.out.1.cell (i := 3) rfl
            have v2 := HX.out.2.cell (i := 2) rfl
            have v3 := HX.out.2.cell (i := 3) rfl
            go_wp2_with fail
            refine HS2.out.mono ?_
            rintro e w6 ⟨rfl, hb⟩
            have HKz := Lib.hid (HKy.out.step hb)
            clear c0 c1 c2 c3 x2 x3 v2 v3 hb
            go_wp2_with fail
            go_roundw
            case rel => exact ⟨k + 1, by omega, by go_num, HKz⟩
            case measure => simp [intOf]; omega
        · obtain rfl : m = k := by omega
          have d1 : decide ((m : Int) < (m : Int)) = false := decide_eq_false (by omega)
          go_wp2_with fail
          go_ret
          exact ⟨rfl, HKj.out.low⟩

end Go.Proofs.YtmmdaegdkikkpaaGreatDoor
end

section
/-
  The walk of SchemaTexts. No condition.
-/
set_option maxRecDepth 100000
set_option linter.unusedVariables false
set_option linter.unusedSimpArgs false
set_option linter.unnecessarySimpa false
namespace Go.Proofs.YtmmdaegdkikkpaaGreatDoor
open Go.RowKit Go.PlainAid

set_option maxHeartbeats 16000000 in
theorem ltexts_s (tO : Option Addr) (tn tc : Nat) (ts : List Ty) (co : Option Addr) (cn cc : Nat) (cs : List Cl) (tx : ByteArray) (W : World) (HT : TysAt W tO tn tc ts) (RT : RTy ts) (HC : ClsAt W co cn cc cs) (RC : RCl cs) (Mtx : tx.size ≤ maxLen) (hok : SOk W) :
    Calls Tryz.prog 3 #[.agg #[.slice tO tn tc, .slice co cn cc], .string tx] W fun e w' => e = .returned (.bool true) ∧ Below W.heap.size W w' := by
  have HO := Lib.hid hok
  clear hok
  have a0 := below_al W (.cells #[.slice tO tn tc, .slice co cn cc] 25)
  have HK0 : Hid (Kb (W.alloc (.cells #[.slice tO tn tc, .slice co cn cc] 25)) W.heap.size (.cells #[.slice tO tn tc, .slice co cn cc] 25)) := Lib.hid (kbl_new W _)
  have HI := Lib.hid (And.intro HT HC)
  have HFew := Lib.hid (few_s tO tn tc ts co cn cc cs _ (HT.below a0) RT (HC.below a0) RC)
  have HLow := Lib.hid a0
  clear HT HC RT RC a0 
  have c0 := HK0.out.cell (i := 0) rfl
  have c1 := HK0.out.cell (i := 1) rfl
  go_enter Tryz.func3, Tryz.ntmps3
  go_wp2_with fail
  refine HFew.out.mono ?_
  rintro e w1 ⟨⟨g, rfl, hg, hb⟩⟩
  have HK0 := Lib.hid (HK0.out.step hb)
  have HLow := Lib.hid (HLow.out.trans (hb.mono HLow.out.size))
  have HO := Lib.hid (HO.out.below HLow.out)
  clear hb HFew c0 c1
  cases g
  · have HCx := Lib.hid (alive_s _ HO.out)
    go_wp2_with fail
    refine HCx.out.mono ?_
    rintro e w9 ⟨rfl, hb⟩
    have HLow := Lib.hid (HLow.out.trans (hb.mono HLow.out.size))
    clear hb
    go_wp2_with fail
    go_ret
    exact ⟨rfl, HLow.out⟩
  · have HG := Lib.hid (hg rfl)
    clear hg
    have HAV : Hid (AV W w1 W.heap.size tO tn tc co cn cc ts cs) := Lib.hid ⟨HK0.out, ⟨_, _, _, _, _, _, rfl, HI.out.1.below HLow.out, HI.out.2.below HLow.out, HG.out.smT, HG.out.smC⟩, HO.out, HLow.out⟩
    clear HK0
    have c0 := HAV.out.box.cell (i := 0) rfl
    have c1 := HAV.out.box.cell (i := 1) rfl
    by_cases La : 5000 < tx.size
    · skip
      have Da : decide ((600 : Int) < (tx.size : Int)) = true := decide_eq_true (by omega)
      have Db : decide ((tx.size : Int) ≤ (4096 : Int)) = false := decide_eq_false (by omega)
      have Dc : decide ((5000 : Int) < (tx.size : Int)) = true := decide_eq_true (by omega)
      have HCx := Lib.hid (alive_s _ HAV.out.ok)
      go_wp2_with fail
      refine HCx.out.mono ?_
      rintro e w9 ⟨rfl, hb⟩
      have HAV := Lib.hid (HAV.out.step hb)
      clear hb
      go_wp2_with fail
      go_ret
      exact ⟨rfl, HAV.out.low⟩
    · by_cases Lb : 600 < tx.size
      · by_cases Lc : tx.size ≤ 4096
        · skip
          have Da : decide ((600 : Int) < (tx.size : Int)) = true := decide_eq_true (by omega)
          have Db : decide ((tx.size : Int) ≤ (4096 : Int)) = true := decide_eq_true (by omega)
          have HCx := Lib.hid (alive_s _ HAV.out.ok)
          go_wp2_with fail
          refine HCx.out.mono ?_
          rintro e w9 ⟨rfl, hb⟩
          have HAV := Lib.hid (HAV.out.step hb)
          clear hb
          go_wp2_with fail
          go_ret
          exact ⟨rfl, HAV.out.low⟩
        · skip
          have Da : decide ((600 : Int) < (tx.size : Int)) = true := decide_eq_true (by omega)
          have Db : decide ((tx.size : Int) ≤ (4096 : Int)) = false := decide_eq_false (by omega)
          have Dc : decide ((5000 : Int) < (tx.size : Int)) = false := decide_eq_false (by omega)
          obtain ⟨te, hte⟩ : ∃ x, txtE ts cs = x := ⟨_, rfl⟩
          obtain ⟨tv, htv⟩ : ∃ x, txtV ts cs = x := ⟨_, rfl⟩
          have HTE := Lib.hid hte
          have HTV := Lib.hid htv
          clear hte htv
          obtain ⟨pe, hpe⟩ : ∃ x, parE tx = x := ⟨_, rfl⟩
          obtain ⟨pn, hpn⟩ : ∃ x, parN tx = x := ⟨_, rfl⟩
          have HPE := Lib.hid hpe
          have HPN := Lib.hid hpn
          clear hpe hpn
          obtain ⟨T, hT⟩ : ∃ x, (parR tx).1 = x := ⟨_, rfl⟩
          obtain ⟨C, hC⟩ : ∃ x, (parR tx).2 = x := ⟨_, rfl⟩
          have HTC := Lib.hid (And.intro hT hC)
          clear hT hC
          have Nx : tx.size ≤ 1000000 := by omega
          have e1 : (tv.toList == tv.toList) = true := by simp
          have e2 : (te == te) = true := by simp
          have e3 : (pe == pe) = true := by simp
          have e4 : ((pn : Int) == (pn : Int)) = true := by simp
          have HCx := Lib.hid (textF_s _ ts cs _ HAV.out.sch HAV.out.ok.so)
          rw [HTE.out, HTV.out] at HCx
          go_wp2_with fail
          refine HCx.out.mono ?_
          rintro e w2 ⟨rfl, hb⟩
          have HAV := Lib.hid (HAV.out.step hb)
          clear c0 c1
          clear hb HCx
          have c0 := HAV.out.box.cell (i := 0) rfl
          have c1 := HAV.out.box.cell (i := 1) rfl
          have HCx := Lib.hid (text7_s _ ts cs _ HAV.out.sch)
          rw [HTE.out, HTV.out] at HCx
          go_wp2_with fail
          refine HCx.out.mono ?_
          rintro e w3 ⟨rfl, hb⟩
          have HAV := Lib.hid (HAV.out.step hb)
          clear c0 c1
          clear hb HCx
          have c0 := HAV.out.box.cell (i := 0) rfl
          have c1 := HAV.out.box.cell (i := 1) rfl
          have HCx := Lib.hid (parseF_s tx _ (by omega) HAV.out.ok.mo HAV.out.ok.mo.lt HAV.out.ok.so)
          go_wp2_with fail
          refine HCx.out.mono ?_
          rintro e w4 hp
          unfold ParP at hp
          rw [HPE.out, HPN.out, HTC.out.1, HTC.out.2] at hp
          obtain ⟨g, rfl, hg, hb⟩ := hp
          have hg0 := hg
          obtain ⟨go, gn, gc, gu, gm, gd, rfl, _⟩ := hg0
          have Hg := Lib.hid hg
          clear hg
          have HAV := Lib.hid (HAV.out.step hb)
          clear c0 c1
          clear hb HCx
          have c0 := HAV.out.box.cell (i := 0) rfl
          have c1 := HAV.out.box.cell (i := 1) rfl
          clear c0 c1
          have Bg : Hid (Kb (w4.alloc (.cells #[.slice go gn gc, .slice gu gm gd] 25)) w4.heap.size (.cells #[.slice go gn gc, .slice gu gm gd] 25)) := Lib.hid (kbl_new _ _)
          have HAV := Lib.hid (HAV.out.step (below_al w4 (.cells #[.slice go gn gc, .slice gu gm gd] 25)))
          have Hg := Lib.hid (Hg.out.below (below_al w4 (.cells #[.slice go gn gc, .slice gu gm gd] 25)))
          have c0 := HAV.out.box.cell (i := 0) rfl
          have c1 := HAV.out.box.cell (i := 1) rfl
          have g0 := Bg.out.cell (i := 0) rfl
          have g1 := Bg.out.cell (i := 1) rfl
          have HCx := Lib.hid (parse7_s tx (w4.alloc (.cells #[.slice go gn gc, .slice gu gm gd] 25)) Nx)
          go_wp2_with fail
          refine HCx.out.mono ?_
          rintro e w5 hp
          unfold ParP at hp
          rw [HPE.out, HPN.out, HTC.out.1, HTC.out.2] at hp
          obtain ⟨y, rfl, hy, hb⟩ := hp
          have hy0 := hy
          obtain ⟨yo, yn, yc, yu, ym, yd, rfl, _⟩ := hy0
          have Hy := Lib.hid hy
          clear hy
          have HAV := Lib.hid (HAV.out.step hb)
          have Bg := Lib.hid (Bg.out.step hb)
          have Hg := Lib.hid (Hg.out.below hb)
          clear c0 c1 g0 g1
          clear hb HCx
          have c0 := HAV.out.box.cell (i := 0) rfl
          have c1 := HAV.out.box.cell (i := 1) rfl
          have g0 := Bg.out.cell (i := 0) rfl
          have g1 := Bg.out.cell (i := 1) rfl
          clear c0 c1 g0 g1
          have By : Hid (Kb (w5.alloc (.cells #[.slice yo yn yc, .slice yu ym yd] 25)) w5.heap.size (.cells #[.slice yo yn yc, .slice yu ym yd] 25)) := Lib.hid (kbl_new _ _)
          have HAV := Lib.hid (HAV.out.step (below_al w5 (.cells #[.slice yo yn yc, .slice yu ym yd] 25)))
          have Bg := Lib.hid (Bg.out.step (below_al w5 (.cells #[.slice yo yn yc, .slice yu ym yd] 25)))
          have Hg := Lib.hid (Hg.out.below (below_al w5 (.cells #[.slice yo yn yc, .slice yu ym yd] 25)))
          have Hy := Lib.hid (Hy.out.below (below_al w5 (.cells #[.slice yo yn yc, .slice yu ym yd] 25)))
          have c0 := HAV.out.box.cell (i := 0) rfl
          have c1 := HAV.out.box.cell (i := 1) rfl
          have g0 := Bg.out.cell (i := 0) rfl
          have g1 := Bg.out.cell (i := 1) rfl
          have y0 := By.out.cell (i := 0) rfl
          have y1 := By.out.cell (i := 1) rfl
          have HCx := Lib.hid (schSame_s _ _ T C _ Hg.out Hy.out)
          go_wp2_with fail
          refine HCx.out.mono ?_
          rintro e w6 ⟨rfl, hb⟩
          have HAV := Lib.hid (HAV.out.step hb)
          have Bg := Lib.hid (Bg.out.step hb)
          have By := Lib.hid (By.out.step hb)
          have Hg := Lib.hid (Hg.out.below hb)
          have Hy := Lib.hid (Hy.out.below hb)
          clear c0 c1 g0 g1 y0 y1
          clear hb HCx
          have c0 := HAV.out.box.cell (i := 0) rfl
          have c1 := HAV.out.box.cell (i := 1) rfl
          have g0 := Bg.out.cell (i := 0) rfl
          have g1 := Bg.out.cell (i := 1) rfl
          have y0 := By.out.cell (i := 0) rfl
          have y1 := By.out.cell (i := 1) rfl
          have HCx := Lib.hid (alive_s _ HAV.out.ok)
          go_wp2_with fail
          refine HCx.out.mono ?_
          rintro e w9 ⟨rfl, hb⟩
          have HAV := Lib.hid (HAV.out.step hb)
          clear hb
          go_wp2_with fail
          go_ret
          exact ⟨rfl, HAV.out.low⟩
      · skip
        have Da : decide ((600 : Int) < (tx.size : Int)) = false := decide_eq_false (by omega)
        have Db : decide ((tx.size : Int) ≤ (4096 : Int)) = true := decide_eq_true (by omega)
        have Dc : decide ((5000 : Int) < (tx.size : Int)) = false := decide_eq_false (by omega)
        obtain ⟨te, hte⟩ : ∃ x, txtE ts cs = x := ⟨_, rfl⟩
        obtain ⟨tv, htv⟩ : ∃ x, txtV ts cs = x := ⟨_, rfl⟩
        have HTE := Lib.hid hte
        have HTV := Lib.hid htv
        clear hte htv
        obtain ⟨pe, hpe⟩ : ∃ x, parE tx = x := ⟨_, rfl⟩
        obtain ⟨pn, hpn⟩ : ∃ x, parN tx = x := ⟨_, rfl⟩
        have HPE := Lib.hid hpe
        have HPN := Lib.hid hpn
        clear hpe hpn
        obtain ⟨T, hT⟩ : ∃ x, (parR tx).1 = x := ⟨_, rfl⟩
        obtain ⟨C, hC⟩ : ∃ x, (parR tx).2 = x := ⟨_, rfl⟩
        have HTC := Lib.hid (And.intro hT hC)
        clear hT hC
        have Nx : tx.size ≤ 1000000 := by omega
        have e1 : (tv.toList == tv.toList) = true := by simp
        have e2 : (te == te) = true := by simp
        have e3 : (pe == pe) = true := by simp
        have e4 : ((pn : Int) == (pn : Int)) = true := by simp
        have HCx := Lib.hid (textF_s _ ts cs _ HAV.out.sch HAV.out.ok.so)
        rw [HTE.out, HTV.out] at HCx
        go_wp2_with fail
        refine HCx.out.mono ?_
        rintro e w2 ⟨rfl, hb⟩
        have HAV := Lib.hid (HAV.out.step hb)
        clear c0 c1
        clear hb HCx
        have c0 := HAV.out.box.cell (i := 0) rfl
        have c1 := HAV.out.box.cell (i := 1) rfl
        have HCx := Lib.hid (text7_s _ ts cs _ HAV.out.sch)
        rw [HTE.out, HTV.out] at HCx
        go_wp2_with fail
        refine HCx.out.mono ?_
        rintro e w3 ⟨rfl, hb⟩
        have HAV := Lib.hid (HAV.out.step hb)
        clear c0 c1
        clear hb HCx
        have c0 := HAV.out.box.cell (i := 0) rfl
        have c1 := HAV.out.box.cell (i := 1) rfl
        have HCx := Lib.hid (parseF_s tx _ (by omega) HAV.out.ok.mo HAV.out.ok.mo.lt HAV.out.ok.so)
        go_wp2_with fail
        refine HCx.out.mono ?_
        rintro e w4 hp
        unfold ParP at hp
        rw [HPE.out, HPN.out, HTC.out.1, HTC.out.2] at hp
        obtain ⟨g, rfl, hg, hb⟩ := hp
        have hg0 := hg
        obtain ⟨go, gn, gc, gu, gm, gd, rfl, _⟩ := hg0
        have Hg := Lib.hid hg
        clear hg
        have HAV := Lib.hid (HAV.out.step hb)
        clear c0 c1
        clear hb HCx
        have c0 := HAV.out.box.cell (i := 0) rfl
        have c1 := HAV.out.box.cell (i := 1) rfl
        clear c0 c1
        have Bg : Hid (Kb (w4.alloc (.cells #[.slice go gn gc, .slice gu gm gd] 25)) w4.heap.size (.cells #[.slice go gn gc, .slice gu gm gd] 25)) := Lib.hid (kbl_new _ _)
        have HAV := Lib.hid (HAV.out.step (below_al w4 (.cells #[.slice go gn gc, .slice gu gm gd] 25)))
        have Hg := Lib.hid (Hg.out.below (below_al w4 (.cells #[.slice go gn gc, .slice gu gm gd] 25)))
        have c0 := HAV.out.box.cell (i := 0) rfl
        have c1 := HAV.out.box.cell (i := 1) rfl
        have g0 := Bg.out.cell (i := 0) rfl
        have g1 := Bg.out.cell (i := 1) rfl
        have HCx := Lib.hid (parse7_s tx (w4.alloc (.cells #[.slice go gn gc, .slice gu gm gd] 25)) Nx)
        go_wp2_with fail
        refine HCx.out.mono ?_
        rintro e w5 hp
        unfold ParP at hp
        rw [HPE.out, HPN.out, HTC.out.1, HTC.out.2] at hp
        obtain ⟨y, rfl, hy, hb⟩ := hp
        have hy0 := hy
        obtain ⟨yo, yn, yc, yu, ym, yd, rfl, _⟩ := hy0
        have Hy := Lib.hid hy
        clear hy
        have HAV := Lib.hid (HAV.out.step hb)
        have Bg := Lib.hid (Bg.out.step hb)
        have Hg := Lib.hid (Hg.out.below hb)
        clear c0 c1 g0 g1
        clear hb HCx
        have c0 := HAV.out.box.cell (i := 0) rfl
        have c1 := HAV.out.box.cell (i := 1) rfl
        have g0 := Bg.out.cell (i := 0) rfl
        have g1 := Bg.out.cell (i := 1) rfl
        clear c0 c1 g0 g1
        have By : Hid (Kb (w5.alloc (.cells #[.slice yo yn yc, .slice yu ym yd] 25)) w5.heap.size (.cells #[.slice yo yn yc, .slice yu ym yd] 25)) := Lib.hid (kbl_new _ _)
        have HAV := Lib.hid (HAV.out.step (below_al w5 (.cells #[.slice yo yn yc, .slice yu ym yd] 25)))
        have Bg := Lib.hid (Bg.out.step (below_al w5 (.cells #[.slice yo yn yc, .slice yu ym yd] 25)))
        have Hg := Lib.hid (Hg.out.below (below_al w5 (.cells #[.slice yo yn yc, .slice yu ym yd] 25)))
        have Hy := Lib.hid (Hy.out.below (below_al w5 (.cells #[.slice yo yn yc, .slice yu ym yd] 25)))
        have c0 := HAV.out.box.cell (i := 0) rfl
        have c1 := HAV.out.box.cell (i := 1) rfl
        have g0 := Bg.out.cell (i := 0) rfl
        have g1 := Bg.out.cell (i := 1) rfl
        have y0 := By.out.cell (i := 0) rfl
        have y1 := By.out.cell (i := 1) rfl
        have HCx := Lib.hid (schSame_s _ _ T C _ Hg.out Hy.out)
        go_wp2_with fail
        refine HCx.out.mono ?_
        rintro e w6 ⟨rfl, hb⟩
        have HAV := Lib.hid (HAV.out.step hb)
        have Bg := Lib.hid (Bg.out.step hb)
        have By := Lib.hid (By.out.step hb)
        have Hg := Lib.hid (Hg.out.below hb)
        have Hy := Lib.hid (Hy.out.below hb)
        clear c0 c1 g0 g1 y0 y1
        clear hb HCx
        have c0 := HAV.out.box.cell (i := 0) rfl
        have c1 := HAV.out.box.cell (i := 1) rfl
        have g0 := Bg.out.cell (i := 0) rfl
        have g1 := Bg.out.cell (i := 1) rfl
        have y0 := By.out.cell (i := 0) rfl
        have y1 := By.out.cell (i := 1) rfl
        have HCx := Lib.hid (alive_s _ HAV.out.ok)
        go_wp2_with fail
        refine HCx.out.mono ?_
        rintro e w9 ⟨rfl, hb⟩
        have HAV := Lib.hid (HAV.out.step hb)
        clear hb
        go_wp2_with fail
        go_ret
        exact ⟨rfl, HAV.out.low⟩

end Go.Proofs.YtmmdaegdkikkpaaGreatDoor
end

section
/-
  schema.Text and schema.Parse return the specified results, for every schema and every string. No condition.
-/
set_option maxRecDepth 100000
set_option linter.unusedVariables false
set_option linter.unusedSimpArgs false
set_option linter.unnecessarySimpa false
namespace Go.Proofs.YtmmdaegdkikkpaaGreatDoor
open Go.ChangeShapes Go.WideShapes Go.ChangeAt Go.RowKit Go.PlainAid
open Go.ChangeMaps (open_string shut_string)


theorem ltexts_types : ∀ t ∈ [25, 9], Tryz.prog.readableRec t = true ∧ t < Tryz.prog.types.size := by
  have h : ([25, 9].all fun t => Tryz.prog.readableRec t && decide (t < Tryz.prog.types.size)) = true := by kernel_rfl
  intro t ht
  have := List.all_eq_true.1 h t ht
  simpa using this

theorem ltexts_contract (H : Type) (enc : TypeId × Value → H) (W : World) (base : Nat) (args : Array Value) (ds gs : List (DataW H)) (before : List MemPlace)
    (hval : ∀ (j : Nat) t v, Tryz.f3.params[j]? = some t → args[j]? = some v → Value.okWide Tryz.prog W .any base t v)
    (hW : DataW.Whole enc Tryz.prog Tryz.f3.params.toList Rows.schemaTextsSpec.vars false W args.toList ds gs before)
    (hsz0 : (DataW.weightsEach Tryz.prog (Tryz.f3.params.toList ++ (OpenSpec.ofChange Rows.schemaTextsSpec).bare.plain.varTypes Tryz.prog) (ds ++ gs)).all (· ≤ reachBytes) = true)
    (hL : laidMetH Tryz.prog Rows.schemaTextsRow.laid W) (hsh : W.ShapedOpen Tryz.prog) :
    Calls Tryz.prog 3 args W fun e W' => ∃ v, e = .returned v ∧ Rows.schemaTextsSpec.post enc Tryz.prog Tryz.f3 false true false false W args v W' := by
  have hW' := hW
  obtain ⟨p, q, hA0, hV, rfl, hfz, hnd⟩ := hW
  have hA : DataW.TrodAll enc Tryz.prog W 0 (fun _ => true) true Tryz.f3.params.toList args.toList ds p := hA0
  obtain ⟨rfl, rfl⟩ := trodVars_none hV
  simp only [List.append_nil] at hW'
  have hlt : ∀ x ∈ p, x.block < W.heap.size := fun x hx => by simpa using hW'.lt x hx
  have fin : ∀ W', Below W.heap.size W W' → DataW.TrodAll enc Tryz.prog W' 0 (fun b => decide (b < W.heap.size)) true [25, 9] args.toList ds p := fun W' hb => by
    rw [Tryz.params3] at hA
    exact trodAll_below hb _ _ _ _ ltexts_types hA hlt
  clear hA0
  rw [Tryz.params3] at hA hval hsz0
  rw [show (OpenSpec.ofChange Rows.schemaTextsSpec).bare.plain.varTypes Tryz.prog = [] from rfl, List.append_nil, List.append_nil] at hsz0
  obtain ⟨v0, vs0, d0, ds0, p0, q0, hargs, rfl, hp0, h0, r0⟩ := trodAll_cons hA
  obtain ⟨v1, vs1, d1, ds1, p1, q1, rfl, rfl, hp1, h1, r1⟩ := trodAll_cons r0
  obtain ⟨rfl, rfl, rfl⟩ := trodAll_nil r1
  obtain rfl : args = #[v0, v1] := by cases args; simp_all
  have hsz : (DataW.weightsEach Tryz.prog [25, 9] [d0, d1]).all (fun x => decide (x ≤ reachBytes)) = true := by simpa using hsz0
  clear hsz0
  obtain ⟨tO, tn, tc, ts, co, cn, cc, cs, rfl, ht0, rt0, hc0, rc0⟩ := open_schemaR (hval 0 25 v0 rfl rfl) h0 (fun n hn => by have := List.all_eq_true.1 hsz n (DataW.weights_mem_each (j := 0) (t := 25) rfl rfl n hn); exact of_decide_eq_true this)
  obtain ⟨tx, rfl, rfl, rfl, hs1⟩ := open_string Tryz.underlying9 (hval 1 9 v1 rfl rfl) h1
  refine (ltexts_s tO tn tc ts co cn cc cs tx W ht0 rt0 hc0 rc0 hs1 (sok hL hsh)).mono fun e W' ⟨he, hb⟩ => ?_
  subst he
  exact ⟨_, rfl, _, _, _, [], p, [], hW', trodAll_mk1 (shut_bool Tryz.underlying4 _), fin W' hb, rfl, hb.frame _, fun h => by cases h⟩

theorem ltexts_lifted (os : Os) (started : os.Started) (H : Type) (enc : TypeId × Value → H) (F : Stop.Interp) :
    ReturnsInHanded {} Tryz.checked os 3 .any ((OpenSpec.ofChange Rows.schemaTextsSpec).preRow enc Tryz.prog Tryz.f3 Rows.schemaTextsRow.domain false Rows.schemaTextsRow.laid) (((OpenSpec.ofChange Rows.schemaTextsSpec).at F).post enc Tryz.prog Tryz.f3 false true false false) := by
  refine returnsInHanded_of_row (C := Tryz.checked) (s := OpenSpec.ofChange Rows.schemaTextsSpec) own started (by kernel_rfl) Tryz.func3
    (witness_row (enc := enc) (C := Tryz.checked) false (World.laidAll Tryz.prog os Rows.schemaTextsRow.laid) #[.agg #[.slice none 0 0, .slice none 0 0], .string ⟨#[]⟩] (World.laidAll_os _ _ _)
      (World.shaped_of_ZipB (by kernel_rfl) (by kernel_rfl)) (by kernel_rfl)
      (OpenSpec.preRow_of_cond 8 (x := ([.agg [.nil, .nil], .lit (.string [])], [], [])) (by kernel_rfl) (by kernel_rfl) (fun k hk => by cases hk) (by kernel_rfl)
        (by rw [MakeChecks.laidMetH_plain _ _ _ (by kernel_rfl)]; exact laidMet_laidAll _ (by kernel_rfl) (by kernel_rfl)))) ?_
  intro W base args ds gs before hval hW _ _ hsz hL hsh _
  exact ltexts_contract H enc W base args ds gs before hval hW hsz hL hsh

end Go.Proofs.YtmmdaegdkikkpaaGreatDoor
end
