/-
  Texts of the schema layer and of those beneath it, joined: ChgVr. Conditions stand at each contract.
-/
import Derived.Test.YtbkignlbcneddaaGreatDoorM12
import Derived.Test.YtbkignlbcneddaaGreatDoorM26
set_option linter.unusedVariables false
set_option linter.unusedSimpArgs false
set_option linter.unnecessarySimpa false

section
/-
  Contract of the reference's Vector. Condition: at most 1000000 records.
-/
set_option maxRecDepth 100000
namespace Go.Proofs.YtbkignlbcneddaaGreatDoor
open Go.RowKit Go.PlainAid
open Csn (Cn cnV cnB KbC kbc_new box_below box_lt parEC parVC vldC fmtS TzOk CnsAt covC noteC lstC bstC laterC ltC cmpC ccells)
theorem nums_more {l : List Chg} {j : Nat} (h : j < l.length) (r : Int) : bstC r (numsG (l.take (j + 1))) = if vldC (gA l j).c = true then laterC r (bstC r (numsG (l.take j))) (gA l j).c else bstC r (numsG (l.take j)) := by
  rw [take_g l j h, nums_snoc]
  by_cases e : vldC (gA l j).c = true
  · rw [if_pos e, if_pos e, Csn.bst_snoc]
  · rw [if_neg e, if_neg e, List.append_nil]
/-- the latest numbers of the first replicas -/
def vecP (l : List Chg) (r : Nat) : List Cn := (List.range r).filterMap fun (k : Nat) => bstC (k : Int) (numsG l)
theorem vecP_more (l : List Chg) (r : Nat) : vecP l (r + 1) = vecP l r ++ (bstC (r : Int) (numsG l)).toList := by
  unfold vecP
  rw [List.range_succ, List.filterMap_append]
  cases e : bstC (r : Int) (numsG l) <;> simp [e]
theorem vecP_len (l : List Chg) (r : Nat) : (vecP l r).length ≤ r := by
  unfold vecP
  exact Nat.le_trans (List.length_filterMap_le _ _) (by simp)
/-- what the outer loop keeps -/
structure VrO (w : World) (P : List Cn) (lv : Value) (W : World) : Prop where
  low : Below w.heap.size w W
  own : W.ownsRow w.heap.size 23 3 lv P.length (ccells P)
theorem VrO.step {w W X : World} {P : List Cn} {lv : Value} (h : VrO w P lv W) (hb : Below W.heap.size W X) : VrO w P lv X := ⟨h.low.trans (hb.mono h.low.size), own_below h.own hb⟩
theorem VrO.far {w W : World} {P : List Cn} {lv : Value} (h : VrO w P lv W) : ∀ X, Below W.heap.size W X → VrO w P lv X := fun X hb => h.step hb
/-- what the inner loop keeps: the box of the latest so far -/
structure VrI (w0 : World) (o : Option Cn) (W : World) : Prop where
  low : Below w0.heap.size w0 W
  box : KbC W w0.heap.size (cnB (o.getD (0, 0, 0)))
theorem VrI.step {w0 W X : World} {o : Option Cn} (h : VrI w0 o W) (hb : Below W.heap.size W X) : VrI w0 o X := ⟨h.low.trans (hb.mono h.low.size), Csn.KbC.step h.box hb⟩
theorem VrI.new (w0 : World) : VrI w0 none (w0.alloc (cnB (0, 0, 0))) := ⟨box_below w0 _, kbc_new w0 _⟩
theorem VrI.two {w0 W : World} {o : Option Cn} (h : VrI w0 o W) (c : Cn) : VrI w0 o (W.alloc (cnB c)) ∧ KbC (W.alloc (cnB c)) W.heap.size (cnB c) := ⟨h.step (box_below W _), kbc_new W _⟩
theorem VrI.put {w0 W : World} {o : Option Cn} (h : VrI w0 o W) (t s q : Int) : VrI w0 (some (t, s, q)) (((W.setCell ⟨w0.heap.size, 0, none⟩ (.int .i64 t)).setCell ⟨w0.heap.size, 1, none⟩ (.int .i64 s)).setCell ⟨w0.heap.size, 2, none⟩ (.int .i64 q)) :=
  ⟨((h.low.setCell (p := ⟨w0.heap.size, 0, none⟩) (Nat.le_refl _) _).setCell (p := ⟨w0.heap.size, 1, none⟩) (Nat.le_refl _) _).setCell (p := ⟨w0.heap.size, 2, none⟩) (Nat.le_refl _) _, Csn.KbC.set3 (u := .int .i64 t) (v := .int .i64 s) (q := .int .i64 q) h.box⟩
set_option maxHeartbeats 16000000 in
theorem rvector_s (ao : Option Addr) (n cap : Nat) (l : List Chg) (w : World) (h : ChsAt w ao n cap l) (hn : n ≤ 1000000) :
    Calls Tryz.prog 30 #[.slice ao n cap] w fun e w' => ∃ vo m vc, e = .returned (.slice vo m vc) ∧ CnsAt w' vo m vc (vecG l) ∧ Below w.heap.size w w' := by
  have HL := Lib.hid h
  have HN := Lib.hid h.1
  have HS := Lib.hid hn
  have HO := Lib.hid (show VrO w (vecP l 0) (.slice none 0 0) w from ⟨Below.refl _ _, World.ownsRow_nil _ _ _ _⟩)
  clear h hn
  go_enter Tryz.func30, Tryz.ntmps30
  go_wp2_with fail
  go_loopw [3, 4, 5, 6, 7, 8] (fun lv iv _ _ _ _ wr => ∃ r : Nat, r ≤ 8 ∧ iv = .int .i64 r ∧ Hid (VrO w (vecP l r) lv wr)) (fun _ iv _ _ _ _ _ => 8 - (intOf iv).toNat)
  case atStart => exact ⟨0, Nat.zero_le _, rfl, HO⟩
  case round =>
    clear HO
    obtain ⟨r, hr, rfl, HO⟩ := hrel
    generalize wr = wo at HO ⊢
    by_cases hlt : r < 8
    · have e1 : (r : Int) < 8 := by omega
      have HR := Lib.hid hlt
      have HFar := Lib.hid HO.out.far
      have HLow := Lib.hid HO.out.low
      have HI := Lib.hid (VrI.new wo)
      unfold cnB at HI
      dsimp only at HI
      clear hlt hr
      go_wp2_with fail
      generalize hW : wo.alloc (.cells #[.int .i64 0, .int .i64 0, .int .i64 0] 23) = W5 at HI ⊢
      clear hW
      go_loopw [6, 7, 8] (fun fv jv _ wx => ∃ (j : Nat) (o : Option Cn), j ≤ n ∧ jv = .int .i64 j ∧ fv = .bool o.isSome ∧ Hid (o = bstC (r : Int) (numsG (l.take j))) ∧ Hid (VrI wo o wx)) (fun _ jv _ _ => n - (intOf jv).toNat)
      case atStart => exact ⟨0, none, Nat.zero_le _, rfl, rfl, Lib.hid rfl, HI⟩
      case round =>
        clear HI
        obtain ⟨j, o, hj, rfl, rfl, HOo, HI⟩ := hrel
        have hn6 : n ≤ 1000000 := HS.out
        by_cases hlt : j < n
        · have e2 : (j : Int) < (n : Int) := by omega
          obtain ⟨b, off, hao, hcs⟩ := HL.out.2.2.2.1 (by omega)
          subst hao
          have HC := Lib.hid (show ∀ V, Below w.heap.size w V → At8 V b (off + j * 8) (gA l j) from fun V hV => by
            obtain ⟨b', o', e', hc⟩ := (HL.out.below hV).2.2.2.1 (by omega)
            cases e'
            exact hc.at8 (by rw [HN.out]; exact hlt))
          have HNx := Lib.hid (nums_more (l := l) (j := j) (by rw [HN.out]; exact hlt) (r : Int))
          obtain ⟨g, hg⟩ : ∃ x, gA l j = x := ⟨_, rfl⟩
          rw [hg, ← HOo.out] at HNx
          rw [hg] at HC
          clear hg hcs
          obtain ⟨⟨t, s, q⟩, op, id, nm, ak, vl⟩ := g
          dsimp only at HNx
          obtain ⟨z, hz⟩ : ∃ x, vldC (t, s, q) = x := ⟨_, rfl⟩
          have HVl := Lib.hid (fun V => Csn.rvldb_k t s q z V hz)
          rw [hz] at HNx
          clear hz
          obtain ⟨c0, c1, c2, c3, c4, c5, c6, c7⟩ := HC.out _ (HLow.out.trans (HI.out.low.mono HLow.out.size))
          dsimp only at c0 c1 c2
          clear c3 c4 c5 c6 c7
          obtain ⟨hx1, hx2⟩ := HI.out.two (t, s, q)
          have HI := Lib.hid hx1
          have HX := Lib.hid hx2
          clear hx1 hx2
          unfold cnB at HX
          dsimp only at HX
          obtain ⟨x0, x1, x2⟩ := Csn.KbC.box (c := (t, s, q)) HX.out
          dsimp only at x0 x1 x2
          go_wp2_with fail
          refine (HVl.out _).mono ?_
          rintro e w2 ⟨rfl, hb⟩
          have HI := Lib.hid (HI.out.step hb)
          have HX := Lib.hid (Csn.KbC.step HX.out hb)
          clear hb c0 c1 c2 x0 x1 x2
          cases z
          · have HN2 : Hid (bstC (r : Int) (numsG (l.take (j + 1))) = o) := Lib.hid (by rw [HNx.out]; simp)
            go_wp2_with fail
            go_roundw
            case rel => exact ⟨j + 1, o, by omega, by go_num, rfl, Lib.hid HN2.out.symm, HI⟩
            case measure => simp [intOf]; omega
          · have HN2 : Hid (bstC (r : Int) (numsG (l.take (j + 1))) = laterC (r : Int) o (t, s, q)) := Lib.hid (by rw [HNx.out]; simp)
            obtain ⟨x0, x1, x2⟩ := Csn.KbC.box (c := (t, s, q)) HX.out
            dsimp only at x0 x1 x2
            by_cases hq : q = (r : Int)
            · have q1 : (q == (r : Int)) = true := by simpa using hq
              cases o with
              | none =>
                have HM : Hid (bstC (r : Int) (numsG (l.take (j + 1))) = some (t, s, q)) := Lib.hid (by rw [HN2.out]; unfold laterC; exact if_pos hq)
                clear hq
                have gf : ∀ i, w2.frozen? ⟨wo.heap.size, i, none⟩ = false := fun i => Csn.KbC.frz HI.out.box
                obtain ⟨y0, y1, y2⟩ := Csn.KbC.box HI.out.box
                dsimp only [Option.getD] at y0 y1 y2
                have HPt := Lib.hid (HI.out.put t s q)
                go_wp2_with fail
                go_roundw
                case rel => exact ⟨j + 1, some (t, s, q), by omega, by go_num, rfl, Lib.hid HM.out.symm, HPt⟩
                case measure => simp [intOf]; omega
              | some d =>
                obtain ⟨lt, ls, lq⟩ := d
                obtain ⟨x, hx⟩ : ∃ x, cmpC (t, s, q) (lt, ls, lq) = x := ⟨_, rfl⟩
                have HCm := Lib.hid (fun V => Csn.rcmp_k t s q lt ls lq x V hx)
                have HLt : Hid (bstC (r : Int) (numsG (l.take (j + 1))) = if ltC (lt, ls, lq) (t, s, q) then some (t, s, q) else some (lt, ls, lq)) := Lib.hid (by rw [HN2.out]; unfold laterC; exact if_pos hq)
                clear hq
                obtain ⟨y0, y1, y2⟩ := Csn.KbC.box HI.out.box
                dsimp only [Option.getD] at y0 y1 y2
                go_wp2_with fail
                refine (HCm.out _).mono ?_
                rintro e w3 ⟨rfl, hb⟩
                have HI := Lib.hid (HI.out.step hb)
                have HX := Lib.hid (Csn.KbC.step HX.out hb)
                clear hb x0 x1 x2 y0 y1 y2
                by_cases hg : ltC (lt, ls, lq) (t, s, q)
                · have d0 : decide (0 < x) = true := decide_eq_true (by rw [← hx]; exact Csn.cmpC_gt.2 hg)
                  have d1 : 0 < x := by rw [← hx]; exact Csn.cmpC_gt.2 hg
                  have HM := Lib.hid (HLt.out.trans (if_pos hg))
                  clear hx hg
                  have gf : ∀ i, w3.frozen? ⟨wo.heap.size, i, none⟩ = false := fun i => Csn.KbC.frz HI.out.box
                  obtain ⟨x0, x1, x2⟩ := Csn.KbC.box (c := (t, s, q)) HX.out
                  dsimp only at x0 x1 x2
                  obtain ⟨y0, y1, y2⟩ := Csn.KbC.box HI.out.box
                  dsimp only [Option.getD] at y0 y1 y2
                  have HPt := Lib.hid (HI.out.put t s q)
                  go_wp2_with fail
                  go_roundw
                  case rel => exact ⟨j + 1, some (t, s, q), by omega, by go_num, rfl, Lib.hid HM.out.symm, HPt⟩
                  case measure => simp [intOf]; omega
                · have d0 : decide (0 < x) = false := decide_eq_false (by rw [← hx]; exact fun k => hg (Csn.cmpC_gt.1 k))
                  have d1 : ¬ 0 < x := by rw [← hx]; exact fun k => hg (Csn.cmpC_gt.1 k)
                  have HM := Lib.hid (HLt.out.trans (if_neg hg))
                  clear hx hg
                  go_wp2_with fail
                  go_roundw
                  case rel => exact ⟨j + 1, some (lt, ls, lq), by omega, by go_num, rfl, Lib.hid HM.out.symm, HI⟩
                  case measure => simp [intOf]; omega
            · have q1 : (q == (r : Int)) = false := by simpa using hq
              have HM : Hid (bstC (r : Int) (numsG (l.take (j + 1))) = o) := Lib.hid (by rw [HN2.out]; unfold laterC; exact if_neg hq)
              clear hq
              go_wp2_with fail
              go_roundw
              case rel => exact ⟨j + 1, o, by omega, by go_num, rfl, Lib.hid HM.out.symm, HI⟩
              case measure => simp [intOf]; omega
        · have e2 : ¬ (j : Int) < (n : Int) := by omega
          obtain rfl : j = n := by omega
          have HE := Lib.hid (show l.take j = l from List.take_of_length_le (by rw [HN.out]; exact Nat.le_refl _))
          rw [HE.out] at HOo
          have HVm := Lib.hid (vecP_more l r)
          rw [← HOo.out] at HVm
          have HV := Lib.hid (HFar.out _ HI.out.low)
          cases o with
          | none =>
            go_wp2_with fail
            go_roundw
            case rel => exact ⟨r + 1, by have := HR.out; omega, by go_num, Lib.hid (by rw [HVm.out]; simpa using HV.out)⟩
            case measure => have := HR.out; simp [intOf]; omega
          | some d =>
            obtain ⟨t, s, q⟩ := d
            obtain ⟨y0, y1, y2⟩ := Csn.KbC.box HI.out.box
            dsimp only [Option.getD] at y0 y1 y2
            have HOn := Lib.hid (Csn.cns_new wr (t, s, q))
            unfold cnB at HOn
            dsimp only at HOn
            have hbx := box_below wr (.cells #[.int .i64 t, .int .i64 s, .int .i64 q] 23)
            have HO2 := Lib.hid (own_below HV.out.own hbx)
            have HLo := Lib.hid (show Below w.heap.size w (wr.alloc (.cells #[.int .i64 t, .int .i64 s, .int .i64 q] 23)) from HV.out.low.trans (hbx.mono HV.out.low.size))
            have HQ := Lib.hid (show (vecP l r).length + 1 ≤ 1000000000 from by have := vecP_len l r; have := HR.out; omega)
            clear hbx
            go_wp2_with (at_builtin; refine Csn.app_cns (wr.alloc _) HO2.out (.tmp 45) (.tmp 47) (some ⟨wr.heap.size, 0, none⟩) 1 1 [(t, s, q)] ?_ ?_ ?_ ?_ ?_ ?_ ?_ ?_; exact rfl; exact rfl; exact rfl; exact rfl; exact HOn.out; exact HQ.out; exact HLo.out.size; intro v3 W3 hown3 hb3)
            rw [← Csn.ccells_app] at hown3
            go_roundw
            case rel => exact ⟨r + 1, by have := HR.out; omega, by go_num, Lib.hid ⟨HLo.out.trans hb3, by rw [HVm.out]; simpa using hown3⟩⟩
            case measure => have := HR.out; simp [intOf]; omega
    · have e1 : ¬ (r : Int) < 8 := by omega
      obtain rfl : r = 8 := by omega
      obtain ⟨vo, vc, hlv, hat⟩ := Csn.cns_of_owns HO.out.own
      subst hlv
      have HA := Lib.hid hat
      clear hat
      go_wp2_with fail
      go_ret
      exact ⟨_, _, _, rfl, HA.out, HO.out.low⟩
end Go.Proofs.YtbkignlbcneddaaGreatDoor
end
