/-
  Texts of the schema layer and of those beneath it, joined: ChgVe, ChgSv, ChgSa, ChgVw, ChgLh, ChgEd, ChgPp, ChgE1, ChgE2, ChgEx, ChgMi, ChgEy. Conditions stand at each contract.
-/
import Derived.Maps.AppendAt
import Derived.Deep.RegionLaw
import Derived.Test.YtbkignlbcneddaaGreatDoorX03
import Derived.Test.YtbkignlbcneddaaGreatDoorX04
import Derived.Test.YtbkignlbcneddaaGreatDoorX07
import Derived.Test.YtbkignlbcneddaaGreatDoorX12
import Derived.Test.YtbkignlbcneddaaGreatDoorX14
import Derived.Test.YtbkignlbcneddaaGreatDoorX22
import Derived.Test.YtbkignlbcneddaaGreatDoorX24
set_option linter.unusedVariables false
set_option linter.unusedSimpArgs false
set_option linter.unnecessarySimpa false

section
/-
  Contract of change.Vector. Condition: at most 1000000 records.
-/
set_option maxRecDepth 100000
namespace Go.Proofs.YtbkignlbcneddaaGreatDoor
open Go.RowKit Go.PlainAid
open Csn (Cn cnV cnB KbC kbc_new box_below box_lt parEC parVC vldC fmtS TzOk CnsAt covC noteC lstC)
theorem vec_nil : vecG [] = [] := by decide +kernel
theorem vec_short (l : List Chg) : (vecG l).length ≤ 8 := by
  unfold vecG lstC
  exact Nat.le_trans (List.length_filterMap_le _ _) (by decide)
theorem vec_more {l : List Chg} {i : Nat} (h : i < l.length) : vecG (l.take (i + 1)) = noteC (vecG (l.take i)) (gA l i).c := by rw [take_g l i h, vecG_snoc]
/-- what the loop keeps: the vector so far, how far the world has gone -/
structure VeI (w : World) (v : List Cn) (lv : Value) (W : World) : Prop where
  low : Below w.heap.size w W
  vec : ∃ vo m vc, lv = .slice vo m vc ∧ CnsAt W vo m vc v
theorem VeI.step {w W X : World} {v : List Cn} {lv : Value} (h : VeI w v lv W) (hb : Below W.heap.size W X) : VeI w v lv X := ⟨h.low.trans (hb.mono h.low.size), by
  obtain ⟨vo, m, vc, e, hc⟩ := h.vec
  exact ⟨vo, m, vc, e, hc.below hb⟩⟩
theorem VeI.box {w W : World} {v : List Cn} {lv : Value} (h : VeI w v lv W) (o : Obj) : VeI w v lv (W.alloc o) ∧ KbC (W.alloc o) W.heap.size o := ⟨h.step (box_below W o), kbc_new W o⟩
theorem notek (ao : Option Addr) (n cap : Nat) (l : List Cn) (t s r : Int) (w : World) (h : CnsAt w ao n cap l) (hn : l.length ≤ 8) :
    Calls Tryz.prog 73 #[.slice ao n cap, .agg #[.int .i64 t, .int .i64 s, .int .i64 r]] w fun e w' => ∃ xo q xc, e = .returned (.slice xo q xc) ∧ CnsAt w' xo q xc (noteC l (t, s, r)) ∧ Below w.heap.size w w' :=
  Csn.note_s ao n cap l (t, s, r) w h (by rw [← h.1]; omega)
set_option maxHeartbeats 16000000 in
theorem vector_s (ao : Option Addr) (n cap : Nat) (l : List Chg) (w : World) (h : ChsAt w ao n cap l) (hn : n ≤ 1000000) :
    Calls Tryz.prog 29 #[.slice ao n cap] w fun e w' => ∃ vo m vc, e = .returned (.slice vo m vc) ∧ CnsAt w' vo m vc (vecG l) ∧ Below w.heap.size w w' := by
  have HL := Lib.hid h
  have HN := Lib.hid h.1
  have HS := Lib.hid hn
  have HI := Lib.hid (show VeI w (vecG (l.take 0)) (.slice none 0 0) w from ⟨Below.refl _ _, none, 0, 0, rfl, by rw [List.take_zero, vec_nil]; exact Csn.cns_nil w⟩)
  clear h hn
  go_enter Tryz.func29, Tryz.ntmps29
  go_wp2_with fail
  go_loopw [3, 5, 8] (fun lv _ iv wr => ∃ i : Nat, i ≤ n ∧ iv = .int .i64 i ∧ Hid (VeI w (vecG (l.take i)) lv wr)) (fun _ _ iv _ => n - (intOf iv).toNat)
  case atStart => exact ⟨0, Nat.zero_le _, rfl, HI⟩
  case round =>
    clear HI
    obtain ⟨i, hi, rfl, HI⟩ := hrel
    have hn6 : n ≤ 1000000 := HS.out
    obtain ⟨vo, m, vc, hlv, hvec⟩ := HI.out.vec
    subst hlv
    have HVe := Lib.hid hvec
    clear hvec
    by_cases hlt : i < n
    · have e1 : (i : Int) < (n : Int) := by omega
      obtain ⟨b, off, hao, hcs⟩ := HL.out.2.2.2.1 (by omega)
      subst hao
      have HC := Lib.hid (show ∀ V, Below w.heap.size w V → At8 V b (off + i * 8) (gA l i) from fun V hV => by
        obtain ⟨b', o', e', hc⟩ := (HL.out.below hV).2.2.2.1 (by omega)
        cases e'
        exact hc.at8 (by rw [HN.out]; exact hlt))
      have HM := Lib.hid (vec_more (l := l) (i := i) (by rw [HN.out]; exact hlt))
      obtain ⟨g, hg⟩ : ∃ x, gA l i = x := ⟨_, rfl⟩
      rw [hg] at HC HM
      clear hg hcs
      obtain ⟨⟨t, s, r⟩, o, id, nm, a, vl⟩ := g
      have HNt := Lib.hid (fun V (hV : CnsAt V vo m vc (vecG (l.take i))) => notek vo m vc (vecG (l.take i)) t s r V hV (vec_short _))
      dsimp only at HM
      obtain ⟨c0, c1, c2, c3, c4, c5, c6, c7⟩ := HC.out _ HI.out.low
      dsimp only at c0 c1 c2 c3 c4 c5 c6 c7
      obtain ⟨hx1, hx2⟩ := HI.out.box (.cells #[.int .i64 t, .int .i64 s, .int .i64 r, .int .i64 o, .string id, .string nm, .string a, .string vl] 26)
      have HVe := Lib.hid (HVe.out.below (box_below _ (.cells #[.int .i64 t, .int .i64 s, .int .i64 r, .int .i64 o, .string id, .string nm, .string a, .string vl] 26)))
      have HI := Lib.hid hx1
      have HK1 := Lib.hid hx2
      clear hx1 hx2
      have b0 := Csn.KbC.cell (i := 0) HK1.out rfl
      have b1 := Csn.KbC.cell (i := 1) HK1.out rfl
      have b2 := Csn.KbC.cell (i := 2) HK1.out rfl
      have b3 := Csn.KbC.cell (i := 3) HK1.out rfl
      have b4 := Csn.KbC.cell (i := 4) HK1.out rfl
      have b5 := Csn.KbC.cell (i := 5) HK1.out rfl
      have b6 := Csn.KbC.cell (i := 6) HK1.out rfl
      have b7 := Csn.KbC.cell (i := 7) HK1.out rfl
      go_wp2_with fail
      refine (HNt.out _ HVe.out).mono ?_
      rintro e w2 ⟨xo, q, xc, rfl, hv2, hb⟩
      have HX := Lib.hid (show VeI w (vecG (l.take (i + 1))) (.slice xo q xc) w2 from ⟨HI.out.low.trans (hb.mono HI.out.low.size), xo, q, xc, rfl, by rw [HM.out]; exact hv2⟩)
      clear hb hv2 c0 c1 c2 c3 c4 c5 c6 c7 b0 b1 b2 b3 b4 b5 b6 b7
      go_wp2_with fail
      go_roundw
      case rel => exact ⟨i + 1, by omega, by go_num, HX⟩
      case measure => simp [intOf]; omega
    · have e1 : ¬ (i : Int) < (n : Int) := by omega
      obtain rfl : i = n := by omega
      have HE := Lib.hid (show l.take i = l from List.take_of_length_le (by rw [HN.out]; exact Nat.le_refl _))
      rw [HE.out] at HVe
      go_wp2_with fail
      go_ret
      exact ⟨_, _, _, rfl, HVe.out, HI.out.low⟩
end Go.Proofs.YtbkignlbcneddaaGreatDoor
end

section
/-
  Contract of the reference's SameVector. No condition.
-/
set_option maxRecDepth 100000
namespace Go.Proofs.YtbkignlbcneddaaGreatDoor
open Go.RowKit Go.PlainAid
open Csn (Cn cnV cnB KbC CnsAt cnA cns_ext)
end Go.Proofs.YtbkignlbcneddaaGreatDoor
end

section
/-
  Contract of the specification's Same of two lists of change records. No condition.
-/
set_option maxRecDepth 100000
namespace Go.Proofs.YtbkignlbcneddaaGreatDoor
open Go.RowKit Go.PlainAid
open Csn (Cn KbC)
instance : DecidableEq Chg := fun a b => by
  obtain ⟨c, o, i, n, k, v⟩ := a
  obtain ⟨c2, o2, i2, n2, k2, v2⟩ := b
  exact decidable_of_iff (c = c2 ∧ o = o2 ∧ i = i2 ∧ n = n2 ∧ k = k2 ∧ v = v2) (by simp)
set_option maxHeartbeats 8000000 in
theorem rsameg_s (ao bo : Option Addr) (n m cap dap : Nat) (ps qs : List Chg) (w : World) (h : ChsAt w ao n cap ps) (k : ChsAt w bo m dap qs) :
    Calls Tryz.prog 23 #[.slice ao n cap, .slice bo m dap] w fun e w' => e = .returned (.bool (decide (ps = qs))) ∧ Below w.heap.size w w' := by
  have HA0 := Lib.hid h
  have HB0 := Lib.hid k
  have hm3 := Nat.le_trans h.2.1 h.2.2.1
  unfold maxLen at hm3
  obtain ⟨h1, _⟩ := h
  obtain ⟨k1, _⟩ := k
  subst h1
  subst k1
  by_cases hne : ps.length = qs.length
  · have hn1 : ((ps.length : Int) != (qs.length : Int)) = false := by simp; omega
    have HNE := Lib.hid hne
    go_enter Tryz.func23, Tryz.ntmps23
    go_wp2_with fail
    go_loopw [5] (fun i wr => ∃ k : Nat, k ≤ ps.length ∧ i = .int .i64 k ∧ Hid (∀ j, j < k → gA ps j = gA qs j) ∧ Hid (Below w.heap.size w wr)) (fun i _ => ps.length - (intOf i).toNat)
    case atStart => exact ⟨0, Nat.zero_le _, rfl, Lib.hid (fun j hj => absurd hj (Nat.not_lt_zero _)), Lib.hid (Below.refl _ _)⟩
    case round =>
      obtain ⟨k, hk, rfl, HA, HB⟩ := hrel
      by_cases hlt : k < ps.length
      · obtain ⟨b, off, hao, _⟩ := HA0.out.2.2.2.1 (by omega)
        obtain ⟨c, off2, hbo, _⟩ := HB0.out.2.2.2.1 (by omega)
        subst hao hbo
        have HC := Lib.hid (show At8 wr b (off + k * 8) (gA ps k) from by
          obtain ⟨b', o', e', hc⟩ := (HA0.out.below HB.out).2.2.2.1 (by omega)
          cases e'
          exact hc.at8 hlt)
        have HD := Lib.hid (show At8 wr c (off2 + k * 8) (gA qs k) from by
          obtain ⟨b', o', e', hc⟩ := (HB0.out.below HB.out).2.2.2.1 (by omega)
          cases e'
          exact hc.at8 (by omega))
        have HNo := Lib.hid (fun (e : gA ps k ≠ gA qs k) => show decide (ps = qs) = false from decide_eq_false fun e2 => e (by rw [e2]))
        have HYe := Lib.hid (fun (e : gA ps k = gA qs k) j (hj : j < k + 1) => show gA ps j = gA qs j from if h : j = k then by rw [h]; exact e else HA.out j (by omega))
        obtain ⟨x, hx⟩ : ∃ x, gA ps k = x := ⟨_, rfl⟩
        obtain ⟨y, hy⟩ : ∃ y, gA qs k = y := ⟨_, rfl⟩
        rw [hx] at HC HNo HYe
        rw [hy] at HD HNo HYe
        have k3 : (k : Int) < (qs.length : Int) := by omega
        clear hx hy hne
        have HBD := Lib.hid (fun q => show Below w.heap.size w (wr.drewN q) from HB.out.trans ⟨rfl, rfl, rfl, Nat.le_refl _, fun _ _ => rfl⟩)
        obtain ⟨⟨t, s, r⟩, o, id, nm, ak, vl⟩ := x
        obtain ⟨⟨t2, s2, r2⟩, o2, id2, nm2, ak2, vl2⟩ := y
        obtain ⟨c0, c1, c2, c3, c4, c5, c6, c7⟩ := HC.out
        obtain ⟨d0, d1, d2, d3, d4, d5, d6, d7⟩ := HD.out
        dsimp only at c0 c1 c2 c3 c4 c5 c6 c7 d0 d1 d2 d3 d4 d5 d6 d7
        have k1 : (0 : Int) ≤ (k : Int) := by omega
        have k2 : (k : Int) < (ps.length : Int) := by omega
        by_cases g0 : t = t2
        · subst g0
          by_cases g1 : s = s2
          · subst g1
            by_cases g2 : r = r2
            · subst g2
              by_cases g3 : o = o2
              · subst g3
                by_cases g4 : id = id2
                · subst g4
                  by_cases g5 : nm = nm2
                  · subst g5
                    by_cases g6 : ak = ak2
                    · subst g6
                      by_cases g7 : vl = vl2
                      · subst g7
                        have HY := Lib.hid (HYe.out rfl)
                        go_wp2_with fail
                        go_quiet (fail)
                        go_wp2_with fail
                        go_roundw
                        case rel => exact ⟨k + 1, by omega, by go_num, HY, Lib.hid (HBD.out _)⟩
                        case measure => simp [intOf]; omega
                      · have q7 : (vl.toList == vl2.toList) = false := by rw [str_eq]; exact decide_eq_false g7
                        have HE := Lib.hid (HNo.out (fun e => g7 (by injections)))
                        clear g7
                        go_wp2_with fail
                        go_quiet (fail)
                        go_wp2_with fail
                        go_ret
                        exact ⟨by rw [HE.out]; rfl, HBD.out _⟩
                    · have q6 : (ak.toList == ak2.toList) = false := by rw [str_eq]; exact decide_eq_false g6
                      have HE := Lib.hid (HNo.out (fun e => g6 (by injections)))
                      clear g6
                      go_wp2_with fail
                      go_quiet (fail)
                      go_wp2_with fail
                      go_ret
                      exact ⟨by rw [HE.out]; rfl, HBD.out _⟩
                  · have q5 : (nm.toList == nm2.toList) = false := by rw [str_eq]; exact decide_eq_false g5
                    have HE := Lib.hid (HNo.out (fun e => g5 (by injections)))
                    clear g5
                    go_wp2_with fail
                    go_quiet (fail)
                    go_wp2_with fail
                    go_ret
                    exact ⟨by rw [HE.out]; rfl, HBD.out _⟩
                · have q4 : (id.toList == id2.toList) = false := by rw [str_eq]; exact decide_eq_false g4
                  have HE := Lib.hid (HNo.out (fun e => g4 (by injections)))
                  clear g4
                  go_wp2_with fail
                  go_quiet (fail)
                  go_wp2_with fail
                  go_ret
                  exact ⟨by rw [HE.out]; rfl, HBD.out _⟩
              · have q3 : (o == o2) = false := by simpa using g3
                have HE := Lib.hid (HNo.out (fun e => g3 (by injections)))
                clear g3
                go_wp2_with fail
                go_quiet (fail)
                go_wp2_with fail
                go_ret
                exact ⟨by rw [HE.out]; rfl, HBD.out _⟩
            · have q2 : (r == r2) = false := by simpa using g2
              have HE := Lib.hid (HNo.out (fun e => g2 (by injections)))
              clear g2
              go_wp2_with fail
              go_quiet (fail)
              go_wp2_with fail
              go_ret
              exact ⟨by rw [HE.out]; rfl, HBD.out _⟩
          · have q1 : (s == s2) = false := by simpa using g1
            have HE := Lib.hid (HNo.out (fun e => g1 (by injections)))
            clear g1
            go_wp2_with fail
            go_quiet (fail)
            go_wp2_with fail
            go_ret
            exact ⟨by rw [HE.out]; rfl, HBD.out _⟩
        · have q0 : (t == t2) = false := by simpa using g0
          have HE := Lib.hid (HNo.out (fun e => g0 (by injections)))
          clear g0
          go_wp2_with fail
          go_quiet (fail)
          go_wp2_with fail
          go_ret
          exact ⟨by rw [HE.out]; rfl, HBD.out _⟩
      · have HE := Lib.hid (show decide (ps = qs) = true from decide_eq_true (gs_ext HNE.out fun j hj => HA.out j (by omega)))
        have k2 : ¬ (k : Int) < (ps.length : Int) := by omega
        clear hne
        go_wp2_with fail
        go_ret
        exact ⟨by rw [HE.out]; rfl, HB.out⟩
  · have hn1 : ((ps.length : Int) != (qs.length : Int)) = true := by simp; omega
    have HE := Lib.hid (show decide (ps = qs) = false from decide_eq_false fun e => hne (by rw [e]))
    clear hne
    go_enter Tryz.func23, Tryz.ntmps23
    go_wp2_with fail
    go_ret
    exact ⟨by rw [HE.out]; rfl, Below.refl _ _⟩
end Go.Proofs.YtbkignlbcneddaaGreatDoor
end

section
/-
  The last row of change.Merge: slices.SortedFunc(maps.Values(m), order), and so Merge itself. Condition: small records, at most 10000 in each list.
-/
set_option maxRecDepth 100000
namespace Go.Proofs.YtbkignlbcneddaaGreatDoor
open Go.RowKit Go.PlainAid Go.Maps Go.Sort Go.Shelf
open Csn (Cn cnV cnB KbC kbc_new box_below ltC ltC_tri)
set_option maxHeartbeats 2000000 in
theorem collectG_s (g : Nat) (lb : Array Value) (eg : ∀ args w, (callFunc g args).run Tryz.prog w = .ok (.enter g args) w)
    (S : List Chg → Prop) (N : Nat) (hN : N ≤ 1000000) (w : World) (hseq : SeqGives Fence.wide 3 Tryz.prog g lb chV S N w) :
    Calls Tryz.prog 109 #[.func (.func g) #[] lb] w fun e w' => ∃ (v : Value) (gs : List Chg), e = .returned v ∧ S gs ∧ w'.ownsRow w.heap.size 26 8 v gs.length (chcells gs) ∧ (v = .slice none 0 0 ↔ gs = []) ∧ Below w.heap.size w w' := by
  have HC := Lib.hid ((callsIn_wide (n := 4)).1 (appendSeqG_in 4 (by omega) g lb eg S N hN w hseq))
  clear hseq
  go_enter Tryz.func109, Tryz.ntmps109
  go_wp2_with fail
  refine HC.out.mono ?_
  rintro e w1 ⟨v, gs, rfl, hS, hrow, hnil, hb⟩
  have HH := Lib.hid (And.intro hS (And.intro hrow (And.intro hnil hb)))
  clear hS hrow hnil hb
  go_wp2_with fail
  go_ret
  exact ⟨v, gs, rfl, HH.out⟩
set_option maxHeartbeats 4000000 in
theorem sortedG_s (g : Nat) (lb : Array Value) (eg : ∀ args w, (callFunc g args).run Tryz.prog w = .ok (.enter g args) w)
    (S : List Chg → Prop) (N : Nat) (hN : N ≤ 1000000) (hS : ∀ gs, S gs → gs.length ≤ 100000) (w : World) (hseq : SeqGives Fence.wide 3 Tryz.prog g lb chV S N w) :
    Calls Tryz.prog 66 #[.func (.func g) #[] lb, .func (.func 68) #[] #[]] w fun e w' => ∃ xo k xc qs, e = .returned (.slice xo k xc) ∧ ChsAt w' xo k xc qs ∧ (∃ gs, S gs ∧ SortedG gs qs) ∧ Below w.heap.size w w' := by
  have HC := Lib.hid (collectG_s g lb eg S N hN w hseq)
  have HSl := Lib.hid hS
  clear hseq hS
  go_enter Tryz.func66, Tryz.ntmps66
  go_wp2_with fail
  refine HC.out.mono ?_
  rintro e w1 ⟨v, gs, rfl, hSg, hrow, hnil, hb⟩
  have HW := Lib.hid hb
  have HG := Lib.hid hSg
  by_cases h0 : gs = []
  · subst h0
    obtain rfl := hnil.2 rfl
    clear hb hSg hrow hnil
    go_wp2_with fail
    refine Calls.mono (show Calls Tryz.prog 110 #[.slice none 0 0, .func (.func 68) #[] #[]] w1 _ from AnyF.slices_SortFunc_none Tryz.layF6 none 0 _ w1) ?_
    rintro e w2 ⟨rfl, rfl⟩
    go_wp2_with fail
    go_ret
    exact ⟨none, 0, 0, [], rfl, chs_nil _, ⟨[], HG.out, List.Perm.refl _, List.Pairwise.nil⟩, HW.out⟩
  · have hpos : 0 < gs.length := List.length_pos_iff.2 h0
    obtain ⟨g', cap, rfl, hgb⟩ : ∃ g' cap, v = .slice (some ⟨g', 0, none⟩) gs.length cap ∧ w.heap.size ≤ g' := by
      rcases hrow.2 with ⟨_, h2⟩ | ⟨g', cap, cur, e, hb2, _⟩
      · omega
      · exact ⟨g', cap, e, hb2⟩
    have HR := Lib.hid (gsort_own w1 w.heap.size g' gs.length cap gs hrow (HSl.out gs hSg) hpos hgb hb.size)
    clear hb hSg hrow hnil
    go_wp2_with fail
    refine HR.out.mono ?_
    rintro e w2 ⟨rfl, qs, hso, hat, hb2⟩
    have HA := Lib.hid hat
    have HS := Lib.hid hso
    clear hat hso
    go_wp2_with fail
    go_ret
    exact ⟨_, _, _, qs, rfl, HA.out, ⟨gs, HG.out, HS.out⟩, HW.out.trans hb2⟩
theorem val_sorts : ValSorts := by
  intro V mb n L hn hk hz
  refine (values_s mb V).mono ?_
  rintro e V1 ⟨rfl, rfl⟩
  have hb := box_below V (.cells #[.map (some mb)] 90)
  refine ⟨_, rfl, hb, ?_⟩
  obtain ⟨D0, hown, hseq⟩ := values_gives 3 (by omega) V.heap.size mb n L (V.alloc (.cells #[.map (some mb)] 90)) (by simp) (Csn.KbC.cell (kbc_new V (.cells #[.map (some mb)] 90)) rfl) (hk.below hb hk.lt)
  refine (sortedG_s _ _ (enters_of Tryz.func111 (by kernel_rfl) rfl) _ (Maps.size D0) (by have := hown.size_le; omega) (fun gs h => by have h1 := hown.size_le; have h2 := h.2; omega) _ hseq).mono ?_
  rintro e V2 ⟨xo, xk, xc, qs, rfl, hat, ⟨gs, ⟨hall, _⟩, hso⟩, hb2⟩
  have hnd : (qs.map (·.c)).Nodup := (hso.1.map _).nodup_iff.2 hall.1
  refine ⟨xo, xk, xc, qs, rfl, hat, ?_, fun g => ?_, hb.trans (hb2.mono hb.size)⟩
  · unfold AscG
    have h1 := hso.2
    unfold List.Nodup at hnd
    rw [List.pairwise_map] at hnd
    rw [List.pairwise_iff_getElem] at h1 hnd ⊢
    intro i j hi hj hij
    exact Classical.byContradiction fun k => hnd i j hi hj hij (ltC_tri k (h1 i j hi hj hij))
  · rw [hso.1.mem_iff]
    exact ⟨hall.2.1 g, fun h => hall.2.2 g (hz g (best_mem h).1).2 h⟩
/-- change.Merge of the program -/
theorem chmerge_s (ao bo : Option Addr) (n m cap dap : Nat) (a b : List Chg) (w : World) (h : ChsAt w ao n cap a) (k : ChsAt w bo m dap b) (hz : ∀ d ∈ a ++ b, SmG d ∧ cnDom d.c) (hn : n ≤ 10000) (hm : m ≤ 10000) (ho : COk w) :
    Calls Tryz.prog 24 #[.slice ao n cap, .slice bo m dap] w fun e w' => ∃ xo k xc, e = .returned (.slice xo k xc) ∧ ChsAt w' xo k xc (mergeG a b) ∧ Below w.heap.size w w' :=
  merge_s val_sorts ao bo n m cap dap a b w h k hz hn hm ho
end Go.Proofs.YtbkignlbcneddaaGreatDoor
end

section
/-
  Contract of the law's light. No condition.
-/
set_option maxRecDepth 100000
namespace Go.Proofs.YtbkignlbcneddaaGreatDoor
open Go.RowKit Go.PlainAid
open Csn (Cn KbC kbc_new box_below)
/-- a record that is light -/
def LtO4 (g : Chg) : Prop := g.id.size ≤ 400 ∧ g.nm.size ≤ 400 ∧ g.ak.size ≤ 400 ∧ g.vl.size ≤ 400
def LtG (l : List Chg) : Prop := l.length ≤ 20 ∧ ∀ g ∈ l, LtO4 g
theorem chg_all {l : List Chg} {P : Chg → Prop} (h : ∀ j, j < l.length → P (gA l j)) : ∀ g ∈ l, P g := fun a ha => by
  obtain ⟨j, hj, e⟩ := List.getElem_of_mem ha
  have := h j hj
  rw [g_get hj, e] at this
  exact this
set_option maxHeartbeats 4000000 in
theorem light_s (ao : Option Addr) (n cap : Nat) (l : List Chg) (w : World) (h : ChsAt w ao n cap l) :
    Calls Tryz.prog 11 #[.slice ao n cap] w fun e w' => LtR (LtG l) e ∧ w' = w := by
  have HA := Lib.hid h
  have HN := Lib.hid h.1
  clear h
  go_enter Tryz.func11, Tryz.ntmps11
  go_wp2_with fail
  go_loopw [3] (fun iv wr => ∃ i : Nat, i ≤ n ∧ i ≤ 20 ∧ iv = .int .i64 i ∧ wr = w ∧ Hid (∀ j, j < i → LtO4 (gA l j))) (fun iv _ => n - (intOf iv).toNat)
  case atStart => exact ⟨0, Nat.zero_le _, Nat.zero_le _, rfl, rfl, Lib.hid (fun j hj => absurd hj (Nat.not_lt_zero _))⟩
  case round =>
    obtain ⟨i, hi, hi2, rfl, rfl, HI⟩ := hrel
    by_cases hlt : i < n
    · have e1 : (i : Int) < (n : Int) := by omega
      have e1b : decide ((i : Int) < (n : Int)) = true := decide_eq_true e1
      by_cases h20 : i < 20
      · have e2 : (i : Int) < 20 := by omega
        have e2b : decide ((i : Int) < 20) = true := decide_eq_true e2
        obtain ⟨b, off, hao, hcs⟩ := HA.out.2.2.2.1 (by omega)
        subst hao
        have HNx := Lib.hid (fun (hx : LtO4 (gA l i)) j (hj : j < i + 1) => if e : j = i then by rw [e]; exact hx else HI.out j (by omega))
        have HC := Lib.hid (hcs.at8 (j := i) (by rw [HN.out]; exact hlt))
        obtain ⟨g, hg⟩ : ∃ x, gA l i = x := ⟨_, rfl⟩
        rw [hg] at HC HNx
        clear hg hcs
        obtain ⟨⟨t, s, r⟩, o, id, nm, ak, vl⟩ := g
        obtain ⟨c0, c1, c2, c3, c4, c5, c6, c7⟩ := HC.out
        dsimp only at c0 c1 c2 c3 c4 c5 c6 c7
        by_cases h1 : id.size ≤ 400
        · have q1 : ¬ (id.size : Int) > 400 := by omega
          have q1b : decide ((400 : Int) < (id.size : Int)) = false := decide_eq_false (by omega)
          by_cases h2 : nm.size ≤ 400
          · have q2 : ¬ (nm.size : Int) > 400 := by omega
            have q2b : decide ((400 : Int) < (nm.size : Int)) = false := decide_eq_false (by omega)
            by_cases h3 : ak.size ≤ 400
            · have q3 : ¬ (ak.size : Int) > 400 := by omega
              have q3b : decide ((400 : Int) < (ak.size : Int)) = false := decide_eq_false (by omega)
              by_cases h4 : vl.size ≤ 400
              · have q4 : ¬ (vl.size : Int) > 400 := by omega
                have q4b : decide ((400 : Int) < (vl.size : Int)) = false := decide_eq_false (by omega)
                have HI := Lib.hid (HNx.out ⟨h1, h2, h3, h4⟩)
                go_wp2_with fail
                go_roundw
                case rel => exact ⟨i + 1, by omega, by omega, by go_num, by first | rfl | trivial, HI⟩
                case measure => simp [intOf]; omega
              · have q4 : (vl.size : Int) > 400 := by omega
                have q4b : decide ((400 : Int) < (vl.size : Int)) = true := decide_eq_true (by omega)
                go_wp2_with fail
                go_ret
                exact ⟨ltr_false _, rfl⟩
            · have q3 : (ak.size : Int) > 400 := by omega
              have q3b : decide ((400 : Int) < (ak.size : Int)) = true := decide_eq_true (by omega)
              go_wp2_with fail
              go_ret
              exact ⟨ltr_false _, rfl⟩
          · have q2 : (nm.size : Int) > 400 := by omega
            have q2b : decide ((400 : Int) < (nm.size : Int)) = true := decide_eq_true (by omega)
            go_wp2_with fail
            go_ret
            exact ⟨ltr_false _, rfl⟩
        · have q1 : (id.size : Int) > 400 := by omega
          have q1b : decide ((400 : Int) < (id.size : Int)) = true := decide_eq_true (by omega)
          go_wp2_with fail
          go_ret
          exact ⟨ltr_false _, rfl⟩
      · obtain rfl : i = 20 := by omega
        have e2 : ¬ ((20 : Nat) : Int) < 20 := by omega
        have e2b : decide (((20 : Nat) : Int) < 20) = false := decide_eq_false e2
        have e3 : ¬ (n : Int) ≤ 20 := by omega
        have e3b : decide ((n : Int) ≤ 20) = false := decide_eq_false e3
        go_wp2_with fail
        go_ret
        first | exact ⟨ltr_false _, rfl⟩ | (rw [e3b]; exact ⟨ltr_false _, rfl⟩)
    · have e1 : ¬ (i : Int) < (n : Int) := by omega
      have e1b : decide ((i : Int) < (n : Int)) = false := decide_eq_false e1
      obtain rfl : i = n := by omega
      have HE := Lib.hid (show LtG l from ⟨by rw [HN.out]; exact hi2, chg_all (by rw [HN.out]; exact HI.out)⟩)
      have e3 : (i : Int) ≤ 20 := by omega
      have e3b : decide ((i : Int) ≤ 20) = true := decide_eq_true e3
      go_wp2_with fail
      go_ret
      first | exact ⟨ltr_true HE.out, rfl⟩ | (rw [e3b]; exact ⟨ltr_true HE.out, rfl⟩)
end Go.Proofs.YtbkignlbcneddaaGreatDoor
end

section
/-
  Plain functions for the changes that turn one list of attributes into another, and that they do. Nothing of the program stands here. No condition.
-/
set_option maxRecDepth 100000
namespace Go.Proofs.YtbkignlbcneddaaGreatDoor
open Go.PlainAid
/-- the names with the values, in the order of the normal form -/
def prsL (l : List At) : List (ByteArray × ByteArray) := (nf l).flatMap fun a => a.2.map fun v => (a.1, v)
def editG (op : Int) (id : ByteArray) (p : ByteArray × ByteArray) : Chg := ⟨(0, 0, 0), op, id, nilS, p.1, p.2⟩
def memP (l : List (ByteArray × ByteArray)) (p : ByteArray × ByteArray) : Bool := l.any fun q => decide (q = p)
theorem memP_iff {l : List (ByteArray × ByteArray)} {p : ByteArray × ByteArray} : memP l p = true ↔ p ∈ l := by
  unfold memP
  rw [List.any_eq_true]
  exact ⟨fun ⟨q, hq, e⟩ => (of_decide_eq_true e) ▸ hq, fun h => ⟨p, h, decide_eq_true rfl⟩⟩
def withoutL (l o : List (ByteArray × ByteArray)) : List (ByteArray × ByteArray) := l.filter fun p => !memP o p
def missG (id : ByteArray) (op : Int) (a b : List At) : List Chg := (withoutL (prsL a) (prsL b)).map (editG op id)
def editsG (id : ByteArray) (a b : List At) : List Chg := missG id 5 a b ++ missG id 4 b a
/-- one edit, as the list of attributes that stands in normal form -/
def cutA (l : List At) (n v : ByteArray) : List At := nf (l.map fun a => (a.1, a.2.filter fun x => decide (a.1 ≠ n ∨ x ≠ v)))
end Go.Proofs.YtbkignlbcneddaaGreatDoor
end

section
/-
  Contract of change's pairs. Condition: few attributes.
-/
set_option maxRecDepth 100000
namespace Go.Proofs.YtbkignlbcneddaaGreatDoor
open Go.RowKit Go.PlainAid
open Csn (KbC kbc_new box_below)
open Nam (PairsAt IsPairs prAt pcells)
def prO (L : List At) : List Prs := L.flatMap fun a => a.2.map fun v => (a.1, v)
theorem prs_is (l : List At) : prsL l = prO (nf l) := rfl
theorem prO_more {L : List At} {i : Nat} (h : i < L.length) : prO (L.take (i + 1)) = prO (L.take i) ++ (atD L i).2.map fun v => ((atD L i).1, v) := by
  have e : L.take (i + 1) = L.take i ++ [atD L i] := by
    unfold atD
    rw [List.take_succ_eq_append_getElem h, List.getD_eq_getElem?_getD, List.getElem?_eq_getElem h]; rfl
  unfold prO
  rw [e, List.flatMap_append]
  simp
theorem prO_len : ∀ L : List At, (prO L).length = sumV L
  | [] => rfl
  | a :: L => by
    have := prO_len L
    unfold prO at this ⊢
    rw [List.flatMap_cons, List.length_append, List.length_map, this]
    unfold sumV
    rw [List.map_cons, List.sum_cons]
theorem prO_take (L : List At) (i : Nat) : (prO (L.take i)).length ≤ sumV L := by
  rw [prO_len]
  unfold sumV
  have h : (L.map fun a => a.2.length) = ((L.take i).map fun a => a.2.length) ++ ((L.drop i).map fun a => a.2.length) := by rw [← List.map_append, List.take_append_drop]
  rw [h, List.sum_append]
  exact Nat.le_add_right _ _
theorem val_more {n : ByteArray} {vs : List ByteArray} {j : Nat} (h : j < vs.length) : (vs.take (j + 1)).map (fun v => (n, v)) = (vs.take j).map (fun v => (n, v)) ++ [(n, partAt vs j)] := by
  unfold partAt
  rw [List.take_succ_eq_append_getElem h, List.map_append, List.getD_eq_getElem?_getD, List.getElem?_eq_getElem h]
  rfl
/-- what the outer loop keeps -/
structure PpI (w1 : World) (out : List Prs) (v : Value) (W : World) : Prop where
  low : Below w1.heap.size w1 W
  own : W.ownsRow w1.heap.size 143 2 v out.length (pcells out)
/-- what the inner loop keeps: the attribute's box too -/
structure PqI (w1 : World) (bx : Nat) (o : Obj) (out : List Prs) (v : Value) (W : World) : Prop where
  low : Below w1.heap.size w1 W
  own : W.ownsRow w1.heap.size 143 2 v out.length (pcells out)
  box : KbC W bx o
  ne : v.ownBlock ≠ some bx
theorem PpI.open {w1 W : World} {out : List Prs} {v : Value} (h : PpI w1 out v W) (o : Obj) : PqI w1 W.heap.size o out v (W.alloc o) :=
  ⟨h.low.trans ((box_below W o).mono h.low.size), own_below h.own (box_below W o), kbc_new W o, fun e => by have := (h.own.lt _ e).2; omega⟩
theorem PqI.put {w1 W V : World} {bx : Nat} {o : Obj} {out : List Prs} {v v' : Value} {p : Prs} (h : PqI w1 bx o out v W) (hrow : V.ownsRow w1.heap.size 143 2 v' (out.length + 1) (pcells out ++ [.string p.1, .string p.2]))
    (hg : W.grownBy V v.ownBlock) (hat : v'.ownBlock = v.ownBlock ∨ ∃ g, v'.ownBlock = some g ∧ W.heap.size ≤ g) : PqI w1 bx o (out ++ [p]) v' V :=
  ⟨h.low.grown hg h.low.size (fun k hk => (h.own.lt k hk).1), by rw [List.length_append, Nam.pcells_append]; exact hrow,
    (hg.block bx h.box.big (fun e => h.ne e.symm)).trans h.box, by
      rcases hat with e | ⟨g, e, hg2⟩
      · rw [e]; exact h.ne
      · intro e2
        rw [e] at e2
        injection e2 with e2
        have := h.box.big
        omega⟩
theorem push_pr {ops : Array Oper} {rest : List Oper} {o : Oper} {a : Act} {Q : Exit → Act → World → Prop} (wr : World) {base : Nat} {v : Value} {n : Nat} {xs : List Value} (hown : wr.ownsRow base 143 2 v n xs) (s x : Operand)
    (p q : ByteArray) (hgd : o.guard = none)
    (ho : o.op = .call { callee := .builtin .append, args := #[s, x], argTypes := #[100, 100] })
    (hs : a.eval s = v) (hx : a.eval x = .slice (some ⟨wr.heap.size, 0, none⟩) 1 1) (hn : n + 1 ≤ 1000000000) (hbase : base ≤ wr.heap.size)
    (h : ∀ v' w', w'.ownsRow base 143 2 v' (n + 1) (xs ++ [.string p, .string q]) → Hid (wr.grownBy w' v.ownBlock) → Hid (v'.ownBlock = v.ownBlock ∨ ∃ g, v'.ownBlock = some g ∧ wr.heap.size ≤ g) → wpList Tryz.prog ops Q rest (a.put o.dst v') w') :
    wpList Tryz.prog ops Q (o :: rest) a (wr.alloc (.cells #[.string p, .string q] 143)) := by
  obtain ⟨i0, hi, hz0, hz1, hz2⟩ := Csn.info_cparts Nam.info_pair
  refine wpList_append_own_at _ hgd s x 100 ho base 143 i0 (.agg #[.string ⟨#[]⟩, .string ⟨#[]⟩]) 2 32 Tryz.underlying100 hi hz0 hz1 hz2 rfl (by decide) v n xs hs (hown.alloc _) ⟨wr.heap.size, 0, none⟩ 1 1 [.string p, .string q] hx rfl
    (Nam.cells_two_new _ _ _ _) (by intro u hu; simp at hu; rcases hu with rfl | rfl <;> rfl) (by unfold maxLen; omega) (by omega) (by simp; omega) ?_
  intro v' w' h1 h2 _ h4
  refine h v' w' h1 (Lib.hid ((World.grownBy_alloc wr _ _).trans h2)) (Lib.hid ?_)
  rcases h4 with h4 | h4
  · exact .inl h4
  · exact .inr ⟨_, h4, by simp⟩
set_option maxHeartbeats 4000000 in
theorem pairs_s (ao : Option Addr) (n cap : Nat) (l : List At) (w : World) (h : AttrsAt w ao n cap l) (hF : Few l) :
    Calls Tryz.prog 74 #[.slice ao n cap] w fun e w' => ∃ xo k xc, e = .returned (.slice xo k xc) ∧ PairsAt w' xo k xc (prsL l) ∧ Below w.heap.size w w' := by
  have HC := Lib.hid (sorted_s ao n cap l w h hF)
  have HF := Lib.hid (few_nf hF)
  clear h hF
  go_enter Tryz.func74, Tryz.ntmps74
  go_wp2_with fail
  refine HC.out.mono ?_
  rintro e w1 ⟨v, T, rfl, hT, hTO, _, hown, hb⟩
  have HA := atts_own hown hTO.ok
  rw [hT] at HA
  obtain ⟨xo, xn, xc, hv, hat⟩ := HA
  subst hv
  have HA := Lib.hid hat
  have HN := Lib.hid hat.1
  have HW := Lib.hid hb
  obtain ⟨L, hL⟩ : ∃ L, nf l = L := ⟨_, rfl⟩
  have HLL := Lib.hid hL
  rw [hL] at HF HA HN
  have hn3 : xn ≤ 3000 := by rw [← HN.out]; exact HF.out.len
  have HI := Lib.hid (show PpI w1 (prO (L.take 0)) (.slice none 0 0) w1 from ⟨Below.refl _ _, World.ownsRow_nil _ _ _ _⟩)
  clear hT hTO hown hb hat hL HC
  go_wp2_with fail
  go_loopw [3, 5, 7, 11] (fun lv _ _ iv wr => ∃ i : Nat, i ≤ xn ∧ iv = .int .i64 i ∧ Hid (PpI w1 (prO (L.take i)) lv wr)) (fun _ _ _ iv _ => xn - (intOf iv).toNat)
  case atStart => exact ⟨0, Nat.zero_le _, rfl, HI⟩
  case round =>
    clear HI
    obtain ⟨i, hi, rfl, HI⟩ := hrel
    by_cases hlt : i < xn
    · have e1 : (i : Int) < (xn : Int) := by omega
      obtain ⟨b, off, hao, hb0, hats⟩ := HA.out.2.2.2 (by omega)
      subst hao
      have HAt := Lib.hid (hats i hlt)
      have HM := Lib.hid (prO_more (L := L) (i := i) (by rw [HN.out]; exact hlt))
      have HVl := Lib.hid (show (atD L i).2.length ≤ 1100000 from by
        have h1 := prO_take L (i + 1)
        rw [HM.out, List.length_append, List.length_map] at h1
        have := HF.out.vals
        omega)
      obtain ⟨⟨nm, vs⟩, ha⟩ : ∃ a, atD L i = a := ⟨_, rfl⟩
      rw [ha] at HAt HM HVl
      clear ha hats hb0
      obtain ⟨a0, vo, vn, vc, a1, hst⟩ := HAt.out
      have HS := Lib.hid hst
      obtain rfl : vs.length = vn := hst.1
      have HO := Lib.hid (show (prO (L.take i)).length ≤ 1100000 from Nat.le_trans (prO_take L i) HF.out.vals)
      have hvl : vs.length ≤ 1100000 := HVl.out
      have c0 := cell_later HI.out.low a0
      have c1 := cell_later HI.out.low a1
      have HQ := Lib.hid (show PqI w1 wr.heap.size (.cells #[.string nm, .slice vo vs.length vc] 60) (prO (L.take i) ++ (vs.take 0).map fun v => (nm, v)) u3 (wr.alloc (.cells #[.string nm, .slice vo vs.length vc] 60)) from by
        rw [List.take_zero, List.map_nil, List.append_nil]; exact HI.out.open _)
      clear hst a0 a1
      have d0 := Csn.KbC.cell (i := 0) HQ.out.box rfl
      have d1 := Csn.KbC.cell (i := 1) HQ.out.box rfl
      go_wp2_with fail
      clear c0 c1 d0 d1
      obtain ⟨bx, hbx⟩ : ∃ bx, wr.heap.size = bx := ⟨_, rfl⟩
      rw [hbx] at HQ ⊢
      generalize wr.alloc (.cells #[.string nm, .slice vo vs.length vc] 60) = W0 at HQ ⊢
      clear hbx HI
      go_loopw [3, 7, 18] (fun lv _ jv wr => ∃ j : Nat, j ≤ vs.length ∧ jv = .int .i64 j ∧ Hid (PqI w1 bx (.cells #[.string nm, .slice vo vs.length vc] 60) (prO (L.take i) ++ (vs.take j).map fun v => (nm, v)) lv wr)) (fun _ _ jv _ => vs.length - (intOf jv).toNat)
      case atStart => exact ⟨0, Nat.zero_le _, rfl, HQ⟩
      case round =>
        clear HQ
        obtain ⟨j, hj, rfl, HQ⟩ := hrel
        by_cases hlj : j < vs.length
        · have e2 : (j : Int) < (vs.length : Int) := by omega
          obtain ⟨vb, voff, hvo, hvb, hcs⟩ := HS.out.at (by omega)
          subst hvo
          have hcell := hcs _ HQ.out.low j hlj
          have HV := Lib.hid (val_more (n := nm) hlj)
          have HQl := Lib.hid (show (prO (L.take i) ++ (vs.take j).map fun v => (nm, v)).length + 1 ≤ 1000000000 from by rw [List.length_append, List.length_map]; have h1 := HO.out; have h2 : (vs.take j).length ≤ j := List.length_take_le _ _; omega)
          obtain ⟨x, hx⟩ : ∃ x, partAt vs j = x := ⟨_, rfl⟩
          rw [hx] at hcell HV
          clear hx hcs hvb
          have d0 := Csn.KbC.cell (i := 0) HQ.out.box rfl
          have HPut := Lib.hid (fun V v' => HQ.out.put (V := V) (v' := v') (p := (nm, x)))
          rw [List.append_assoc, ← HV.out] at HPut
          have HOw := Lib.hid HQ.out.own
          go_wp2_with (at_builtin; refine push_pr _ HOw.out (.tmp 22) (.tmp 27) nm x ?_ ?_ ?_ ?_ ?_ ?_ ?_; exact rfl; exact rfl; exact rfl; exact rfl; exact HQl.out; exact HQ.out.low.size; intro v3 W3 hown3 hg3 hat3; have HQ3 := Lib.hid (HPut.out _ _ hown3 hg3.out hat3.out); clear hown3 hg3 hat3)
          go_roundw
          case rel => exact ⟨j + 1, by omega, by go_num, HQ3⟩
          case measure => simp [intOf]; omega
        · have e2 : ¬ (j : Int) < (vs.length : Int) := by omega
          obtain rfl : j = vs.length := by omega
          have HE := Lib.hid (show vs.take vs.length = vs from List.take_length)
          have HI := Lib.hid (show PpI w1 (prO (L.take (i + 1))) _ _ from by rw [HM.out]; have h1 := HQ.out.low; have h2 := HQ.out.own; rw [HE.out] at h2; exact ⟨h1, h2⟩)
          go_wp2_with fail
          go_roundw
          case rel => exact ⟨i + 1, by omega, by go_num, HI⟩
          case measure => simp [intOf]; omega
    · have e1 : ¬ (i : Int) < (xn : Int) := by omega
      obtain rfl : i = xn := by omega
      have HE := Lib.hid (show L.take i = L from List.take_of_length_le (by rw [HN.out]; exact Nat.le_refl _))
      rw [HE.out] at HI
      obtain ⟨yo, yc, hv, hat⟩ := Nam.pairs_own HI.out.own rfl
      subst hv
      have HAt := Lib.hid hat
      clear hat
      go_wp2_with fail
      go_ret
      exact ⟨_, _, _, rfl, by rw [prs_is, HLL.out]; exact HAt.out, HW.out.trans (HI.out.low.mono HW.out.size)⟩
end Go.Proofs.YtbkignlbcneddaaGreatDoor
end

section
/-
  Contract of change's edits. Condition: at most 1000000 pairs.
-/
set_option maxRecDepth 100000
namespace Go.Proofs.YtbkignlbcneddaaGreatDoor
open Go.RowKit Go.PlainAid
open Csn (KbC kbc_new box_below)
open Nam (PairsAt IsPairs prAt)
/-- what the loop keeps -/
structure EdI (w : World) (out : List Chg) (v : Value) (W : World) : Prop where
  low : Below w.heap.size w W
  own : W.ownsRow w.heap.size 26 8 v out.length (chcells out)
set_option maxHeartbeats 8000000 in
theorem edits_s (op : Int) (id : ByteArray) (ao : Option Addr) (n cap : Nat) (ps : List (ByteArray × ByteArray)) (w : World) (h : PairsAt w ao n cap ps) (hn : n ≤ 1000000) :
    Calls Tryz.prog 75 #[.int .i64 op, .string id, .slice ao n cap] w fun e w' => ∃ v, e = .returned v ∧ w'.ownsRow w.heap.size 26 8 v (ps.map (editG op id)).length (chcells (ps.map (editG op id))) ∧ Below w.heap.size w w' := by
  have HL := Lib.hid h
  have HN := Lib.hid h.1
  have HS := Lib.hid hn
  have HI := Lib.hid (show EdI w ((ps.take 0).map (editG op id)) (.slice none 0 0) w from ⟨Below.refl _ _, World.ownsRow_nil _ _ _ _⟩)
  clear h hn
  go_enter Tryz.func75, Tryz.ntmps75
  go_wp2_with fail
  go_loopw [7, 9, 12] (fun lv _ iv wr => ∃ i : Nat, i ≤ n ∧ iv = .int .i64 i ∧ Hid (EdI w ((ps.take i).map (editG op id)) lv wr)) (fun _ _ iv _ => n - (intOf iv).toNat)
  case atStart => exact ⟨0, Nat.zero_le _, rfl, HI⟩
  case round =>
    clear HI
    obtain ⟨i, hi, rfl, HI⟩ := hrel
    have hn6 : n ≤ 1000000 := HS.out
    by_cases hlt : i < n
    · have e1 : (i : Int) < (n : Int) := by omega
      obtain ⟨b, off, hao, hcs⟩ := HL.out.2.2.2 (by omega)
      subst hao
      have HC := Lib.hid (show ∀ V, Below w.heap.size w V → V.cell? ⟨b, off + i * 2, none⟩ = some (.string (prAt ps i).1) ∧ V.cell? ⟨b, off + i * 2 + 1, none⟩ = some (.string (prAt ps i).2) from fun V hV => by
        obtain ⟨b', o', e', hc⟩ := (HL.out.below hV).2.2.2 (by omega)
        cases e'
        exact hc.2 i (by rw [HN.out]; exact hlt))
      have HM := Lib.hid (show (ps.take (i + 1)).map (editG op id) = (ps.take i).map (editG op id) ++ [editG op id (prAt ps i)] from by rw [Nam.pr_take ps i (by rw [HN.out]; exact hlt), List.map_append]; rfl)
      have HQ := Lib.hid (show ((ps.take i).map (editG op id)).length + 1 ≤ 1000000000 from by rw [List.length_map]; have h2 : (ps.take i).length ≤ i := List.length_take_le _ _; omega)
      obtain ⟨⟨px, py⟩, hp⟩ : ∃ x, prAt ps i = x := ⟨_, rfl⟩
      rw [hp] at HC HM
      clear hp hcs
      have HM2 : Hid ((ps.take (i + 1)).map (editG op id) = (ps.take i).map (editG op id) ++ [⟨(0, 0, 0), op, id, nilS, px, py⟩]) := Lib.hid HM.out
      have HOn := Lib.hid (ch_one (wr.alloc (.cells #[.string px, .string py] 143)) ⟨(0, 0, 0), op, id, nilS, px, py⟩)
      rw [chB_is, World.size_alloc] at HOn
      unfold nilS at HOn
      have HO2 := Lib.hid (own_below (own_below HI.out.own (box_below wr (.cells #[.string px, .string py] 143))) (box_below (wr.alloc (.cells #[.string px, .string py] 143)) (.cells #[.int .i64 0, .int .i64 0, .int .i64 0, .int .i64 op, .string id, .string ⟨#[]⟩, .string px, .string py] 26)))
      have HLo := Lib.hid (show Below w.heap.size w ((wr.alloc (.cells #[.string px, .string py] 143)).alloc (.cells #[.int .i64 0, .int .i64 0, .int .i64 0, .int .i64 op, .string id, .string ⟨#[]⟩, .string px, .string py] 26)) from (HI.out.low.trans ((box_below wr (.cells #[.string px, .string py] 143)).mono HI.out.low.size)).trans ((box_below _ _).mono (Nat.le_trans HI.out.low.size (box_below wr (.cells #[.string px, .string py] 143)).size)))
      obtain ⟨c0, c1⟩ := HC.out wr HI.out.low
      go_wp2_with (at_builtin; refine app_chs ((wr.alloc _).alloc _) HO2.out (.tmp 16) (.tmp 24) (some ⟨wr.heap.size + 1, 0, none⟩) 1 1 [⟨(0, 0, 0), op, id, nilS, px, py⟩] ?_ ?_ ?_ ?_ ?_ ?_ ?_ ?_; exact rfl; exact rfl; exact rfl; exact rfl; exact HOn.out; exact HQ.out; (show w.heap.size ≤ ((wr.heap.push _).push _).size; exact HLo.out.size); intro v3 W3 hown3 hb3)
      rw [← chcells_app] at hown3
      go_roundw
      case rel => exact ⟨i + 1, by omega, by go_num, Lib.hid (by rw [HM2.out]; exact ⟨HLo.out.trans hb3, by simpa using hown3⟩)⟩
      case measure => simp [intOf]; omega
    · have e1 : ¬ (i : Int) < (n : Int) := by omega
      obtain rfl : i = n := by omega
      have HE := Lib.hid (show ps.take i = ps from List.take_of_length_le (by rw [HN.out]; exact Nat.le_refl _))
      rw [HE.out] at HI
      go_wp2_with fail
      go_ret
      exact ⟨u7, rfl, by have h := HI.out.own; rw [List.length_map] at h; exact h, HI.out.low⟩
end Go.Proofs.YtbkignlbcneddaaGreatDoor
end

section
/-
  Contract of change's without. Condition: at most 1000000 pairs a side, strings that a map's key may hold.
-/
set_option maxRecDepth 100000
namespace Go.Proofs.YtbkignlbcneddaaGreatDoor
open Go.RowKit Go.PlainAid
open Csn (KbC kbc_new box_below)
open Nam (PairsAt IsPairs prAt pcells)
/-- what the map of pairs answers -/
def memF (l : List Prs) (x : Prs) : Option Value := if memP l x = true then some (.bool true) else none
theorem memF_nil : memF [] = fun _ => none := rfl
theorem memF_snoc (l : List Prs) (p : Prs) : memF (l ++ [p]) = setF (memF l) p (.bool true) := by
  funext j
  unfold setF memF
  by_cases e : j = p
  · rw [if_pos e, if_pos (memP_iff.2 (by simp [e]))]
  · rw [if_neg e]
    by_cases h : memP l j = true
    · rw [if_pos h, if_pos (memP_iff.2 (List.mem_append.2 (.inl (memP_iff.1 h))))]
    · rw [if_neg h, if_neg (fun k => h (memP_iff.2 (by
        rcases List.mem_append.1 (memP_iff.1 k) with q | q
        · exact q
        · exact absurd (by simpa using q) e)))]
theorem memF_get (l : List Prs) (p : Prs) : (memF l p).getD (.bool false) = .bool (memP l p) := by
  unfold memF
  cases h : memP l p <;> rfl
theorem pr_mem {l : List Prs} {j : Nat} (h : j < l.length) : prAt l j ∈ l := by
  unfold prAt
  rw [List.getD_eq_getElem?_getD, List.getElem?_eq_getElem h]
  exact List.getElem_mem h
/-- what the first loop keeps -/
structure WoI (w : World) (l : List Prs) (k : Nat) (W : World) : Prop where
  low : Below w.heap.size w W
  map : KMap prK W w.heap.size k (memF (l.take k))
theorem WoI.box {w W : World} {l : List Prs} {k : Nat} (h : WoI w l k W) (o : Obj) : WoI w l k (W.alloc o) ∧ KbC (W.alloc o) W.heap.size o :=
  ⟨⟨h.low.trans ((box_below W o).mono h.low.size), h.map.below (box_below W o) h.map.lt⟩, kbc_new W o⟩
theorem WoI.put {w W : World} {l : List Prs} {k : Nat} (h : WoI w l k W) (hk : k < l.length) (hn : l.length ≤ 1000000) (hd : ∀ p ∈ l, prDom p) :
    ∃ w', (Instr.mapUpdate 144 (.map (some w.heap.size)) (prV (prAt l k)) (.bool true)).run Tryz.prog W = .ok () w' ∧ WoI w l (k + 1) w' := by
  obtain ⟨w', hr, hm, hg⟩ := h.map.store (t := 144) (e := 4) Tryz.underlying144 (by unfold maxLen; omega) (prAt l k) (hd _ (pr_mem hk)) (.bool true)
  refine ⟨w', hr, h.low.grown hg h.low.size (fun j hj => by cases hj; exact Nat.le_refl _), ?_⟩
  rw [Nam.pr_take l k hk, memF_snoc]
  exact hm
theorem wo_more {ps : List Prs} {i : Nat} (h : i < ps.length) (qs : List Prs) : withoutL (ps.take (i + 1)) qs = withoutL (ps.take i) qs ++ if memP qs (prAt ps i) = true then [] else [prAt ps i] := by
  rw [Nam.pr_take ps i h]
  unfold withoutL
  rw [List.filter_append]
  cases e : memP qs (prAt ps i) <;> simp [e]
/-- what the second loop keeps -/
structure WpI (w2 : World) (out : List Prs) (v : Value) (W : World) : Prop where
  low : Below w2.heap.size w2 W
  own : W.ownsRow w2.heap.size 143 2 v out.length (pcells out)
theorem WpI.step {w2 W X : World} {out : List Prs} {v : Value} (h : WpI w2 out v W) (hb : Below W.heap.size W X) : WpI w2 out v X := ⟨h.low.trans (hb.mono h.low.size), own_below h.own hb⟩
theorem zero_bool (w : World) : (zeroValue 4).run Tryz.prog w = .ok (.bool false) w := by rfl
set_option maxHeartbeats 8000000 in
theorem without_s (ao bo : Option Addr) (n m cap dap : Nat) (ps qs : List Prs) (w : World) (h : PairsAt w ao n cap ps) (k : PairsAt w bo m dap qs) (hn : n ≤ 1000000) (hm : m ≤ 1000000) (hp : ∀ p ∈ ps, prDom p) (hq : ∀ p ∈ qs, prDom p) :
    Calls Tryz.prog 76 #[.slice ao n cap, .slice bo m dap] w fun e w' => ∃ xo k xc, e = .returned (.slice xo k xc) ∧ PairsAt w' xo k xc (withoutL ps qs) ∧ Below w.heap.size w w' := by
  have HLa := Lib.hid h
  have HLb := Lib.hid k
  have HNa := Lib.hid h.1
  have HNb := Lib.hid k.1
  have HSa := Lib.hid hn
  have HSb := Lib.hid hm
  have HPa := Lib.hid hp
  have HPb := Lib.hid hq
  have HI := Lib.hid (show WoI w qs 0 (w.alloc (.map #[] 0)) from ⟨(Below.refl _ _).alloc (Nat.le_refl _) _, by rw [List.take_zero, memF_nil]; exact kmap_made w⟩)
  clear h k hn hm hp hq
  have hmm := @run_makeMap Tryz.prog
  go_enter Tryz.func76, Tryz.ntmps76
  go_wp2_with fail
  clear hmm
  go_loopw [7, 14] (fun _ iv wr => ∃ i : Nat, i ≤ m ∧ iv = .int .i64 i ∧ Hid (WoI w qs i wr)) (fun _ iv _ => m - (intOf iv).toNat)
  case atStart => exact ⟨0, Nat.zero_le _, rfl, HI⟩
  case round =>
    clear HI
    obtain ⟨i, hi, rfl, HI⟩ := hrel
    have hmb := HSb.out
    by_cases hlt : i < m
    · have e1 : (i : Int) < (m : Int) := by omega
      obtain ⟨b, off, hao, hcs⟩ := HLb.out.2.2.2 (by omega)
      subst hao
      have HC := Lib.hid (show ∀ V, Below w.heap.size w V → V.cell? ⟨b, off + i * 2, none⟩ = some (.string (prAt qs i).1) ∧ V.cell? ⟨b, off + i * 2 + 1, none⟩ = some (.string (prAt qs i).2) from fun V hV => by
        obtain ⟨b', o', e', hc⟩ := (HLb.out.below hV).2.2.2 (by omega)
        cases e'
        exact hc.2 i (by rw [HNb.out]; exact hlt))
      obtain ⟨c0, c1⟩ := HC.out wr HI.out.low
      have HPut := Lib.hid (fun W (hW : WoI w qs i W) => hW.put (by rw [HNb.out]; exact hlt) (by rw [HNb.out]; exact hmb) HPb.out)
      obtain ⟨⟨px, py⟩, hp⟩ : ∃ x, prAt qs i = x := ⟨_, rfl⟩
      rw [hp] at c0 c1 HPut
      unfold prV at HPut
      clear hp hcs
      dsimp only at c0 c1 HPut
      obtain ⟨hx1, hx2⟩ := HI.out.box (.cells #[.string px, .string py] 143)
      have HK := Lib.hid hx2
      have d0 := Csn.KbC.cell (i := 0) HK.out rfl
      have d1 := Csn.KbC.cell (i := 1) HK.out rfl
      obtain ⟨w2, hrun, hw2⟩ := HPut.out _ hx1
      have HI2 := Lib.hid hw2
      clear hx1 hx2 hw2
      go_wp2_with fail
      go_roundw
      case rel => exact ⟨i + 1, by omega, by go_num, HI2⟩
      case measure => simp [intOf]; omega
    · have e1 : ¬ (i : Int) < (m : Int) := by omega
      obtain rfl : i = m := by omega
      have HE := Lib.hid (show qs.take i = qs from List.take_of_length_le (by rw [HNb.out]; exact Nat.le_refl _))
      generalize wr = w2 at HI ⊢
      have HB2 := Lib.hid HI.out.low
      have HMp := Lib.hid (show KMap prK w2 w.heap.size i (memF qs) from by have h := HI.out.map; rw [HE.out] at h; exact h)
      have HMk := Lib.hid (fun V (hV : Below w2.heap.size w2 V) => HMp.out.below hV HMp.out.lt)
      have HJ := Lib.hid (show WpI w2 (withoutL (ps.take 0) qs) (.slice none 0 0) w2 from ⟨Below.refl _ _, World.ownsRow_nil _ _ _ _⟩)
      clear HI hlt hi e1 HE
      go_wp2_with fail
      go_loopw [8, 10, 23] (fun lv _ jv wr => ∃ j : Nat, j ≤ n ∧ jv = .int .i64 j ∧ Hid (WpI w2 (withoutL (ps.take j) qs) lv wr)) (fun _ _ jv _ => n - (intOf jv).toNat)
      case atStart => exact ⟨0, Nat.zero_le _, rfl, HJ⟩
      case round =>
        clear HJ
        obtain ⟨j, hj, rfl, HJ⟩ := hrel
        have hna := HSa.out
        by_cases hlt : j < n
        · have e1 : (j : Int) < (n : Int) := by omega
          obtain ⟨b, off, hao, hcs⟩ := HLa.out.2.2.2 (by omega)
          subst hao
          have HC := Lib.hid (show ∀ V, Below w2.heap.size w2 V → V.cell? ⟨b, off + j * 2, none⟩ = some (.string (prAt ps j).1) ∧ V.cell? ⟨b, off + j * 2 + 1, none⟩ = some (.string (prAt ps j).2) from fun V hV => by
            obtain ⟨b', o', e', hc⟩ := (HLa.out.below (HB2.out.trans (hV.mono HB2.out.size))).2.2.2 (by omega)
            cases e'
            exact hc.2 j (by rw [HNa.out]; exact hlt))
          have HM := Lib.hid (wo_more (ps := ps) (i := j) (by rw [HNa.out]; exact hlt) qs)
          have HDm := Lib.hid (show prDom (prAt ps j) from HPa.out _ (pr_mem (by rw [HNa.out]; exact hlt)))
          have HQ := Lib.hid (show (withoutL (ps.take j) qs).length + 1 ≤ 1000000000 from by have h1 : (withoutL (ps.take j) qs).length ≤ (ps.take j).length := List.length_filter_le _ _; have h2 : (ps.take j).length ≤ j := List.length_take_le _ _; omega)
          obtain ⟨⟨px, py⟩, hp⟩ : ∃ x, prAt ps j = x := ⟨_, rfl⟩
          rw [hp] at HC HM HDm
          clear hp hcs
          obtain ⟨z, hz⟩ : ∃ x, memP qs (px, py) = x := ⟨_, rfl⟩
          have HLook := Lib.hid (show ∀ V, Below w2.heap.size w2 V → (Instr.lookup 144 (.map (some w.heap.size)) (.agg #[.string px, .string py]) false).run Tryz.prog V = .ok (.bool z) V from fun V hV => by
            have h := (HMk.out V hV).look (t := 144) (e := 4) (z := .bool false) Tryz.underlying144 (zero_bool V) (px, py) HDm.out
            rw [memF_get, hz] at h
            exact h)
          rw [hz] at HM
          clear hz
          obtain ⟨c0, c1⟩ := HC.out wr HJ.out.low
          have HK := Lib.hid (kbc_new wr (.cells #[.string px, .string py] 143))
          have HJ1 := Lib.hid (HJ.out.step (box_below wr (.cells #[.string px, .string py] 143)))
          have d0 := Csn.KbC.cell (i := 0) HK.out rfl
          have d1 := Csn.KbC.cell (i := 1) HK.out rfl
          have hlook := HLook.out _ HJ1.out.low
          cases z
          · have HM2 : Hid (withoutL (ps.take (j + 1)) qs = withoutL (ps.take j) qs ++ [(px, py)]) := Lib.hid (by rw [HM.out]; rfl)
            clear HM
            go_wp2_with (at_builtin; refine Nam.push_pair (wr.alloc _) HJ1.out.own (.tmp 31) (.tmp 33) px py ?_ ?_ ?_ ?_ ?_ ?_ ?_; exact rfl; exact rfl; exact rfl; (rw [World.size_alloc]; exact rfl); exact HQ.out; exact HJ1.out.low.size; intro v3 W3 hown3 hb3)
            go_roundw
            case rel => exact ⟨j + 1, by omega, by go_num, Lib.hid (by rw [HM2.out]; exact ⟨HJ1.out.low.trans hb3, by rw [List.length_append, Nam.pcells_append]; exact hown3⟩)⟩
            case measure => simp [intOf]; omega
          · have HM2 : Hid (withoutL (ps.take (j + 1)) qs = withoutL (ps.take j) qs) := Lib.hid (by rw [HM.out]; simp)
            clear HM
            go_wp2_with fail
            go_roundw
            case rel => exact ⟨j + 1, by omega, by go_num, Lib.hid (by rw [HM2.out]; exact HJ1.out)⟩
            case measure => simp [intOf]; omega
        · have e1 : ¬ (j : Int) < (n : Int) := by omega
          obtain rfl : j = n := by omega
          have HE := Lib.hid (show ps.take j = ps from List.take_of_length_le (by rw [HNa.out]; exact Nat.le_refl _))
          rw [HE.out] at HJ
          obtain ⟨xo, xc, hv, hat⟩ := Nam.pairs_own HJ.out.own rfl
          subst hv
          have HA := Lib.hid hat
          clear hat
          go_wp2_with fail
          go_ret
          exact ⟨_, _, _, rfl, HA.out, HB2.out.trans (HJ.out.low.mono HB2.out.size)⟩
end Go.Proofs.YtbkignlbcneddaaGreatDoor
end

section
/-
  Contract of change.Edits. Condition: few attributes with at most 100000 values.
-/
set_option maxRecDepth 100000
namespace Go.Proofs.YtbkignlbcneddaaGreatDoor
open Go.RowKit Go.PlainAid
open Csn (KbC kbc_new box_below)
open Nam (PairsAt IsPairs prAt pcells)
theorem prs_few {l : List At} (h : Few l) (hv : sumV l ≤ 100000) : (prsL l).length ≤ 100000 ∧ ∀ p ∈ prsL l, prDom p := by
  have hf := few_nf h
  refine ⟨?_, fun p hp => ?_⟩
  · rw [prs_is, prO_len]; exact Nat.le_trans (sumV_nf l) hv
  · rw [prs_is] at hp
    unfold prO at hp
    obtain ⟨a, ha, hp⟩ := List.mem_flatMap.1 hp
    obtain ⟨x, hx, rfl⟩ := List.mem_map.1 hp
    have h1 := hf.small a ha
    have h2 := h1.2 x hx
    refine ⟨?_, ?_⟩
    · show a.1.size ≤ maxLen
      unfold maxLen; have := h1.1; omega
    · show x.size ≤ maxLen
      unfold maxLen; omega
theorem wo_len (a b : List Prs) : (withoutL a b).length ≤ a.length := List.length_filter_le _ _
set_option maxHeartbeats 4000000 in
theorem chedits_s (id : ByteArray) (ao bo : Option Addr) (n m cap dap : Nat) (l k : List At) (w : World) (h : AttrsAt w ao n cap l) (hk : AttrsAt w bo m dap k) (hF : Few l) (hG : Few k) (hv : sumV l ≤ 100000) (hu : sumV k ≤ 100000) :
    Calls Tryz.prog 32 #[.string id, .slice ao n cap, .slice bo m dap] w fun e w' => ∃ v, e = .returned v ∧ w'.ownsRow w.heap.size 26 8 v (editsG id l k).length (chcells (editsG id l k)) ∧ Below w.heap.size w w' := by
  have HK := Lib.hid hk
  have HFk := Lib.hid hG
  have HP := Lib.hid (prs_few hF hv)
  have HR := Lib.hid (prs_few hG hu)
  have HC := Lib.hid (pairs_s ao n cap l w h hF)
  obtain ⟨P, hP⟩ : ∃ P, prsL l = P := ⟨_, rfl⟩
  obtain ⟨R, hR⟩ : ∃ R, prsL k = R := ⟨_, rfl⟩
  have HE := Lib.hid (show editsG id l k = (withoutL P R).map (editG 5 id) ++ (withoutL R P).map (editG 4 id) from by unfold editsG missG; rw [hP, hR])
  rw [hP] at HP HC
  rw [hR] at HR
  have HRk := Lib.hid hR
  clear h hk hF hG hv hu hP hR
  go_enter Tryz.func32, Tryz.ntmps32
  go_wp2_with fail
  refine HC.out.mono ?_
  rintro e w1 ⟨po, pn, pc, rfl, hp, hb⟩
  have HPa := Lib.hid hp
  have HW := Lib.hid hb
  have HC2 := Lib.hid (pairs_s bo m dap k w1 (HK.out.below hb) HFk.out)
  rw [HRk.out] at HC2
  clear hp hb
  go_wp2_with fail
  refine HC2.out.mono ?_
  rintro e w2 ⟨ro, rn, rc, rfl, hp, hb⟩
  have HRa := Lib.hid hp
  have HPa := Lib.hid (HPa.out.below hb)
  have HW := Lib.hid (HW.out.trans (hb.mono HW.out.size))
  clear hp hb
  have hpn : pn ≤ 100000 := by rw [← HPa.out.1]; exact HP.out.1
  have hrn : rn ≤ 100000 := by rw [← HRa.out.1]; exact HR.out.1
  go_wp2_with fail
  refine (without_s po ro pn rn pc rc P R w2 HPa.out HRa.out (by omega) (by omega) HP.out.2 HR.out.2).mono ?_
  rintro e w3 ⟨xo, xn, xc, rfl, hx, hb⟩
  have HX := Lib.hid hx
  have HRa := Lib.hid (HRa.out.below hb)
  have HPa := Lib.hid (HPa.out.below hb)
  have HW := Lib.hid (HW.out.trans (hb.mono HW.out.size))
  have hxn : xn ≤ 1000000 := by have h1 := wo_len P R; rw [hx.1] at h1; have := HP.out.1; omega
  clear hx hb
  go_wp2_with fail
  refine (edits_s 5 id xo xn xc (withoutL P R) w3 HX.out hxn).mono ?_
  rintro e w4 ⟨v4, rfl, hrow, hb⟩
  have HRow := Lib.hid (hrow.mono HW.out.size)
  have HRa := Lib.hid (HRa.out.below hb)
  have HPa := Lib.hid (HPa.out.below hb)
  have HW := Lib.hid (HW.out.trans (hb.mono HW.out.size))
  clear hrow hb
  go_wp2_with fail
  refine (without_s ro po rn pn rc pc R P w4 HRa.out HPa.out (by omega) (by omega) HR.out.2 HP.out.2).mono ?_
  rintro e w5 ⟨yo, yn, yc, rfl, hy, hb⟩
  have HY := Lib.hid hy
  have HRow := Lib.hid (own_below HRow.out hb)
  have HW := Lib.hid (HW.out.trans (hb.mono HW.out.size))
  have hyn : yn ≤ 1000000 := by have h1 := wo_len R P; rw [hy.1] at h1; have := HR.out.1; omega
  clear hy hb
  go_wp2_with fail
  refine (edits_s 4 id yo yn yc (withoutL R P) w5 HY.out hyn).mono ?_
  rintro e w6 ⟨v6, rfl, hrow, hb⟩
  obtain ⟨zo, zc, hz, hzs⟩ := chs_of_owns hrow
  subst hz
  rw [List.length_map] at hzs
  have HZ := Lib.hid hzs
  have HRow := Lib.hid (own_below HRow.out hb)
  have HW := Lib.hid (HW.out.trans (hb.mono HW.out.size))
  have HN := Lib.hid (show ((withoutL P R).map (editG 5 id)).length + (withoutL R P).length ≤ 1000000000 from by
    rw [List.length_map]
    have h1 := wo_len P R; have h2 := wo_len R P; have h3 := HP.out.1; have h4 := HR.out.1; omega)
  clear hrow hb hzs
  go_wp2_with (at_builtin; go_loud (refine app_chs w6 HRow.out (.tmp 19) (.tmp 24) zo (withoutL R P).length zc ((withoutL R P).map (editG 4 id)) ?_ ?_ ?_ ?_ ?_ ?_ ?_ ?_; exact rfl; exact rfl; exact rfl; exact rfl; exact HZ.out; exact HN.out; exact HW.out.size; intro v7 w7 hown hb))
  go_ret
  rw [← chcells_app] at hown
  exact ⟨v7, rfl, by rw [HE.out, List.length_append]; simpa only [List.length_map] using hown, HW.out.trans hb⟩
end Go.Proofs.YtbkignlbcneddaaGreatDoor
end

section
/-
  Contract of the specification's missing. Condition: few attributes.
-/
set_option maxRecDepth 100000
namespace Go.Proofs.YtbkignlbcneddaaGreatDoor
open Go.RowKit Go.PlainAid
open Csn (KbC kbc_new box_below info_cparts)
/-- what the loops keep -/
structure MiI (w1 : World) (out : List Chg) (v : Value) (W : World) : Prop where
  low : Below w1.heap.size w1 W
  own : W.ownsRow w1.heap.size 26 8 v out.length (chcells out)
theorem MiI.step {w1 W V : World} {out : List Chg} {v : Value} (h : MiI w1 out v W) (hb : Below W.heap.size W V) : MiI w1 out v V :=
  ⟨h.low.trans (hb.mono h.low.size), own_below h.own hb⟩
end Go.Proofs.YtbkignlbcneddaaGreatDoor
end

section
/-
  Contract of the specification's Edits. Condition: few attributes with at most 100000 values.
-/
set_option maxRecDepth 100000
namespace Go.Proofs.YtbkignlbcneddaaGreatDoor
open Go.RowKit Go.PlainAid
open Csn (KbC kbc_new box_below)
end Go.Proofs.YtbkignlbcneddaaGreatDoor
end
