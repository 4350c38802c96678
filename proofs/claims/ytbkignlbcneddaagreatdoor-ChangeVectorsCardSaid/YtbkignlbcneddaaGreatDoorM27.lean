/-
  Texts of the schema layer and of those beneath it, joined: ChgE2, ChgEx, ChgMi, ChgEy, ChgCd, ChgR3, ChgRf, ChgAw0. Conditions stand at each contract.
-/
import Derived.Deep.RegionLaw
import Derived.Test.YtbkignlbcneddaaGreatDoorM04
import Derived.Test.YtbkignlbcneddaaGreatDoorM07
import Derived.Test.YtbkignlbcneddaaGreatDoorM08
import Derived.Test.YtbkignlbcneddaaGreatDoorM13
import Derived.Test.YtbkignlbcneddaaGreatDoorM14
import Derived.Test.YtbkignlbcneddaaGreatDoorM19
import Derived.Test.YtbkignlbcneddaaGreatDoorM20
import Derived.Test.YtbkignlbcneddaaGreatDoorM22
import Derived.Test.YtbkignlbcneddaaGreatDoorM23
import Derived.Test.YtbkignlbcneddaaGreatDoorM25
import Derived.Test.YtbkignlbcneddaaGreatDoorM26
set_option linter.unusedVariables false
set_option linter.unusedSimpArgs false
set_option linter.unnecessarySimpa false

section
/-
  Contract of change's without. Condition: at most 1000000 pairs a side, strings that a map's key may hold.
-/
set_option maxRecDepth 100000
namespace Go.Proofs.YtbkignlbcneddaaGreatDoor
open Go.RowKit Go.PlainAid
open Csn (KbC kbc_new box_below)
open Nam (PairsAt IsPairs prAt pcells)
/-- what the map of pairs answers -/
def memF (l : List Prs) (x : Prs) : Option Value := if memP l x = true then some (.bool true) else none
theorem memF_nil : memF [] = fun _ => none := rfl
theorem memF_snoc (l : List Prs) (p : Prs) : memF (l ++ [p]) = setF (memF l) p (.bool true) := by
  funext j
  unfold setF memF
  by_cases e : j = p
  · rw [if_pos e, if_pos (memP_iff.2 (by simp [e]))]
  · rw [if_neg e]
    by_cases h : memP l j = true
    · rw [if_pos h, if_pos (memP_iff.2 (List.mem_append.2 (.inl (memP_iff.1 h))))]
    · rw [if_neg h, if_neg (fun k => h (memP_iff.2 (by
        rcases List.mem_append.1 (memP_iff.1 k) with q | q
        · exact q
        · exact absurd (by simpa using q) e)))]
theorem memF_get (l : List Prs) (p : Prs) : (memF l p).getD (.bool false) = .bool (memP l p) := by
  unfold memF
  cases h : memP l p <;> rfl
theorem pr_mem {l : List Prs} {j : Nat} (h : j < l.length) : prAt l j ∈ l := by
  unfold prAt
  rw [List.getD_eq_getElem?_getD, List.getElem?_eq_getElem h]
  exact List.getElem_mem h
/-- what the first loop keeps -/
structure WoI (w : World) (l : List Prs) (k : Nat) (W : World) : Prop where
  low : Below w.heap.size w W
  map : KMap prK W w.heap.size k (memF (l.take k))
theorem WoI.box {w W : World} {l : List Prs} {k : Nat} (h : WoI w l k W) (o : Obj) : WoI w l k (W.alloc o) ∧ KbC (W.alloc o) W.heap.size o :=
  ⟨⟨h.low.trans ((box_below W o).mono h.low.size), h.map.below (box_below W o) h.map.lt⟩, kbc_new W o⟩
theorem WoI.put {w W : World} {l : List Prs} {k : Nat} (h : WoI w l k W) (hk : k < l.length) (hn : l.length ≤ 1000000) (hd : ∀ p ∈ l, prDom p) :
    ∃ w', (Instr.mapUpdate 144 (.map (some w.heap.size)) (prV (prAt l k)) (.bool true)).run Tryz.prog W = .ok () w' ∧ WoI w l (k + 1) w' := by
  obtain ⟨w', hr, hm, hg⟩ := h.map.store (t := 144) (e := 4) Tryz.underlying144 (by unfold maxLen; omega) (prAt l k) (hd _ (pr_mem hk)) (.bool true)
  refine ⟨w', hr, h.low.grown hg h.low.size (fun j hj => by cases hj; exact Nat.le_refl _), ?_⟩
  rw [Nam.pr_take l k hk, memF_snoc]
  exact hm
theorem wo_more {ps : List Prs} {i : Nat} (h : i < ps.length) (qs : List Prs) : withoutL (ps.take (i + 1)) qs = withoutL (ps.take i) qs ++ if memP qs (prAt ps i) = true then [] else [prAt ps i] := by
  rw [Nam.pr_take ps i h]
  unfold withoutL
  rw [List.filter_append]
  cases e : memP qs (prAt ps i) <;> simp [e]
/-- what the second loop keeps -/
structure WpI (w2 : World) (out : List Prs) (v : Value) (W : World) : Prop where
  low : Below w2.heap.size w2 W
  own : W.ownsRow w2.heap.size 143 2 v out.length (pcells out)
theorem WpI.step {w2 W X : World} {out : List Prs} {v : Value} (h : WpI w2 out v W) (hb : Below W.heap.size W X) : WpI w2 out v X := ⟨h.low.trans (hb.mono h.low.size), own_below h.own hb⟩
theorem zero_bool (w : World) : (zeroValue 4).run Tryz.prog w = .ok (.bool false) w := by rfl
set_option maxHeartbeats 8000000 in
theorem without_s (ao bo : Option Addr) (n m cap dap : Nat) (ps qs : List Prs) (w : World) (h : PairsAt w ao n cap ps) (k : PairsAt w bo m dap qs) (hn : n ≤ 1000000) (hm : m ≤ 1000000) (hp : ∀ p ∈ ps, prDom p) (hq : ∀ p ∈ qs, prDom p) :
    Calls Tryz.prog 76 #[.slice ao n cap, .slice bo m dap] w fun e w' => ∃ xo k xc, e = .returned (.slice xo k xc) ∧ PairsAt w' xo k xc (withoutL ps qs) ∧ Below w.heap.size w w' := by
  have HLa := Lib.hid h
  have HLb := Lib.hid k
  have HNa := Lib.hid h.1
  have HNb := Lib.hid k.1
  have HSa := Lib.hid hn
  have HSb := Lib.hid hm
  have HPa := Lib.hid hp
  have HPb := Lib.hid hq
  have HI := Lib.hid (show WoI w qs 0 (w.alloc (.map #[] 0)) from ⟨(Below.refl _ _).alloc (Nat.le_refl _) _, by rw [List.take_zero, memF_nil]; exact kmap_made w⟩)
  clear h k hn hm hp hq
  have hmm := @run_makeMap Tryz.prog
  go_enter Tryz.func76, Tryz.ntmps76
  go_wp2_with fail
  clear hmm
  go_loopw [7, 14] (fun _ iv wr => ∃ i : Nat, i ≤ m ∧ iv = .int .i64 i ∧ Hid (WoI w qs i wr)) (fun _ iv _ => m - (intOf iv).toNat)
  case atStart => exact ⟨0, Nat.zero_le _, rfl, HI⟩
  case round =>
    clear HI
    obtain ⟨i, hi, rfl, HI⟩ := hrel
    have hmb := HSb.out
    by_cases hlt : i < m
    · have e1 : (i : Int) < (m : Int) := by omega
      obtain ⟨b, off, hao, hcs⟩ := HLb.out.2.2.2 (by omega)
      subst hao
      have HC := Lib.hid (show ∀ V, Below w.heap.size w V → V.cell? ⟨b, off + i * 2, none⟩ = some (.string (prAt qs i).1) ∧ V.cell? ⟨b, off + i * 2 + 1, none⟩ = some (.string (prAt qs i).2) from fun V hV => by
        obtain ⟨b', o', e', hc⟩ := (HLb.out.below hV).2.2.2 (by omega)
        cases e'
        exact hc.2 i (by rw [HNb.out]; exact hlt))
      obtain ⟨c0, c1⟩ := HC.out wr HI.out.low
      have HPut := Lib.hid (fun W (hW : WoI w qs i W) => hW.put (by rw [HNb.out]; exact hlt) (by rw [HNb.out]; exact hmb) HPb.out)
      obtain ⟨⟨px, py⟩, hp⟩ : ∃ x, prAt qs i = x := ⟨_, rfl⟩
      rw [hp] at c0 c1 HPut
      unfold prV at HPut
      clear hp hcs
      dsimp only at c0 c1 HPut
      obtain ⟨hx1, hx2⟩ := HI.out.box (.cells #[.string px, .string py] 143)
      have HK := Lib.hid hx2
      have d0 := Csn.KbC.cell (i := 0) HK.out rfl
      have d1 := Csn.KbC.cell (i := 1) HK.out rfl
      obtain ⟨w2, hrun, hw2⟩ := HPut.out _ hx1
      have HI2 := Lib.hid hw2
      clear hx1 hx2 hw2
      go_wp2_with fail
      go_roundw
      case rel => exact ⟨i + 1, by omega, by go_num, HI2⟩
      case measure => simp [intOf]; omega
    · have e1 : ¬ (i : Int) < (m : Int) := by omega
      obtain rfl : i = m := by omega
      have HE := Lib.hid (show qs.take i = qs from List.take_of_length_le (by rw [HNb.out]; exact Nat.le_refl _))
      generalize wr = w2 at HI ⊢
      have HB2 := Lib.hid HI.out.low
      have HMp := Lib.hid (show KMap prK w2 w.heap.size i (memF qs) from by have h := HI.out.map; rw [HE.out] at h; exact h)
      have HMk := Lib.hid (fun V (hV : Below w2.heap.size w2 V) => HMp.out.below hV HMp.out.lt)
      have HJ := Lib.hid (show WpI w2 (withoutL (ps.take 0) qs) (.slice none 0 0) w2 from ⟨Below.refl _ _, World.ownsRow_nil _ _ _ _⟩)
      clear HI hlt hi e1 HE
      go_wp2_with fail
      go_loopw [8, 10, 23] (fun lv _ jv wr => ∃ j : Nat, j ≤ n ∧ jv = .int .i64 j ∧ Hid (WpI w2 (withoutL (ps.take j) qs) lv wr)) (fun _ _ jv _ => n - (intOf jv).toNat)
      case atStart => exact ⟨0, Nat.zero_le _, rfl, HJ⟩
      case round =>
        clear HJ
        obtain ⟨j, hj, rfl, HJ⟩ := hrel
        have hna := HSa.out
        by_cases hlt : j < n
        · have e1 : (j : Int) < (n : Int) := by omega
          obtain ⟨b, off, hao, hcs⟩ := HLa.out.2.2.2 (by omega)
          subst hao
          have HC := Lib.hid (show ∀ V, Below w2.heap.size w2 V → V.cell? ⟨b, off + j * 2, none⟩ = some (.string (prAt ps j).1) ∧ V.cell? ⟨b, off + j * 2 + 1, none⟩ = some (.string (prAt ps j).2) from fun V hV => by
            obtain ⟨b', o', e', hc⟩ := (HLa.out.below (HB2.out.trans (hV.mono HB2.out.size))).2.2.2 (by omega)
            cases e'
            exact hc.2 j (by rw [HNa.out]; exact hlt))
          have HM := Lib.hid (wo_more (ps := ps) (i := j) (by rw [HNa.out]; exact hlt) qs)
          have HDm := Lib.hid (show prDom (prAt ps j) from HPa.out _ (pr_mem (by rw [HNa.out]; exact hlt)))
          have HQ := Lib.hid (show (withoutL (ps.take j) qs).length + 1 ≤ 1000000000 from by have h1 : (withoutL (ps.take j) qs).length ≤ (ps.take j).length := List.length_filter_le _ _; have h2 : (ps.take j).length ≤ j := List.length_take_le _ _; omega)
          obtain ⟨⟨px, py⟩, hp⟩ : ∃ x, prAt ps j = x := ⟨_, rfl⟩
          rw [hp] at HC HM HDm
          clear hp hcs
          obtain ⟨z, hz⟩ : ∃ x, memP qs (px, py) = x := ⟨_, rfl⟩
          have HLook := Lib.hid (show ∀ V, Below w2.heap.size w2 V → (Instr.lookup 144 (.map (some w.heap.size)) (.agg #[.string px, .string py]) false).run Tryz.prog V = .ok (.bool z) V from fun V hV => by
            have h := (HMk.out V hV).look (t := 144) (e := 4) (z := .bool false) Tryz.underlying144 (zero_bool V) (px, py) HDm.out
            rw [memF_get, hz] at h
            exact h)
          rw [hz] at HM
          clear hz
          obtain ⟨c0, c1⟩ := HC.out wr HJ.out.low
          have HK := Lib.hid (kbc_new wr (.cells #[.string px, .string py] 143))
          have HJ1 := Lib.hid (HJ.out.step (box_below wr (.cells #[.string px, .string py] 143)))
          have d0 := Csn.KbC.cell (i := 0) HK.out rfl
          have d1 := Csn.KbC.cell (i := 1) HK.out rfl
          have hlook := HLook.out _ HJ1.out.low
          cases z
          · have HM2 : Hid (withoutL (ps.take (j + 1)) qs = withoutL (ps.take j) qs ++ [(px, py)]) := Lib.hid (by rw [HM.out]; rfl)
            clear HM
            go_wp2_with (at_builtin; refine Nam.push_pair (wr.alloc _) HJ1.out.own (.tmp 31) (.tmp 33) px py ?_ ?_ ?_ ?_ ?_ ?_ ?_; exact rfl; exact rfl; exact rfl; (rw [World.size_alloc]; exact rfl); exact HQ.out; exact HJ1.out.low.size; intro v3 W3 hown3 hb3)
            go_roundw
            case rel => exact ⟨j + 1, by omega, by go_num, Lib.hid (by rw [HM2.out]; exact ⟨HJ1.out.low.trans hb3, by rw [List.length_append, Nam.pcells_append]; exact hown3⟩)⟩
            case measure => simp [intOf]; omega
          · have HM2 : Hid (withoutL (ps.take (j + 1)) qs = withoutL (ps.take j) qs) := Lib.hid (by rw [HM.out]; simp)
            clear HM
            go_wp2_with fail
            go_roundw
            case rel => exact ⟨j + 1, by omega, by go_num, Lib.hid (by rw [HM2.out]; exact HJ1.out)⟩
            case measure => simp [intOf]; omega
        · have e1 : ¬ (j : Int) < (n : Int) := by omega
          obtain rfl : j = n := by omega
          have HE := Lib.hid (show ps.take j = ps from List.take_of_length_le (by rw [HNa.out]; exact Nat.le_refl _))
          rw [HE.out] at HJ
          obtain ⟨xo, xc, hv, hat⟩ := Nam.pairs_own HJ.out.own rfl
          subst hv
          have HA := Lib.hid hat
          clear hat
          go_wp2_with fail
          go_ret
          exact ⟨_, _, _, rfl, HA.out, HB2.out.trans (HJ.out.low.mono HB2.out.size)⟩
end Go.Proofs.YtbkignlbcneddaaGreatDoor
end

section
/-
  Contract of change.Edits. Condition: few attributes with at most 100000 values.
-/
set_option maxRecDepth 100000
namespace Go.Proofs.YtbkignlbcneddaaGreatDoor
open Go.RowKit Go.PlainAid
open Csn (KbC kbc_new box_below)
open Nam (PairsAt IsPairs prAt pcells)
theorem prs_few {l : List At} (h : Few l) (hv : sumV l ≤ 100000) : (prsL l).length ≤ 100000 ∧ ∀ p ∈ prsL l, prDom p := by
  have hf := few_nf h
  refine ⟨?_, fun p hp => ?_⟩
  · rw [prs_is, prO_len]; exact Nat.le_trans (sumV_nf l) hv
  · rw [prs_is] at hp
    unfold prO at hp
    obtain ⟨a, ha, hp⟩ := List.mem_flatMap.1 hp
    obtain ⟨x, hx, rfl⟩ := List.mem_map.1 hp
    have h1 := hf.small a ha
    have h2 := h1.2 x hx
    refine ⟨?_, ?_⟩
    · show a.1.size ≤ maxLen
      unfold maxLen; have := h1.1; omega
    · show x.size ≤ maxLen
      unfold maxLen; omega
theorem wo_len (a b : List Prs) : (withoutL a b).length ≤ a.length := List.length_filter_le _ _
set_option maxHeartbeats 4000000 in
theorem chedits_s (id : ByteArray) (ao bo : Option Addr) (n m cap dap : Nat) (l k : List At) (w : World) (h : AttrsAt w ao n cap l) (hk : AttrsAt w bo m dap k) (hF : Few l) (hG : Few k) (hv : sumV l ≤ 100000) (hu : sumV k ≤ 100000) :
    Calls Tryz.prog 32 #[.string id, .slice ao n cap, .slice bo m dap] w fun e w' => ∃ v, e = .returned v ∧ w'.ownsRow w.heap.size 26 8 v (editsG id l k).length (chcells (editsG id l k)) ∧ Below w.heap.size w w' := by
  have HK := Lib.hid hk
  have HFk := Lib.hid hG
  have HP := Lib.hid (prs_few hF hv)
  have HR := Lib.hid (prs_few hG hu)
  have HC := Lib.hid (pairs_s ao n cap l w h hF)
  obtain ⟨P, hP⟩ : ∃ P, prsL l = P := ⟨_, rfl⟩
  obtain ⟨R, hR⟩ : ∃ R, prsL k = R := ⟨_, rfl⟩
  have HE := Lib.hid (show editsG id l k = (withoutL P R).map (editG 5 id) ++ (withoutL R P).map (editG 4 id) from by unfold editsG missG; rw [hP, hR])
  rw [hP] at HP HC
  rw [hR] at HR
  have HRk := Lib.hid hR
  clear h hk hF hG hv hu hP hR
  go_enter Tryz.func32, Tryz.ntmps32
  go_wp2_with fail
  refine HC.out.mono ?_
  rintro e w1 ⟨po, pn, pc, rfl, hp, hb⟩
  have HPa := Lib.hid hp
  have HW := Lib.hid hb
  have HC2 := Lib.hid (pairs_s bo m dap k w1 (HK.out.below hb) HFk.out)
  rw [HRk.out] at HC2
  clear hp hb
  go_wp2_with fail
  refine HC2.out.mono ?_
  rintro e w2 ⟨ro, rn, rc, rfl, hp, hb⟩
  have HRa := Lib.hid hp
  have HPa := Lib.hid (HPa.out.below hb)
  have HW := Lib.hid (HW.out.trans (hb.mono HW.out.size))
  clear hp hb
  have hpn : pn ≤ 100000 := by rw [← HPa.out.1]; exact HP.out.1
  have hrn : rn ≤ 100000 := by rw [← HRa.out.1]; exact HR.out.1
  go_wp2_with fail
  refine (without_s po ro pn rn pc rc P R w2 HPa.out HRa.out (by omega) (by omega) HP.out.2 HR.out.2).mono ?_
  rintro e w3 ⟨xo, xn, xc, rfl, hx, hb⟩
  have HX := Lib.hid hx
  have HRa := Lib.hid (HRa.out.below hb)
  have HPa := Lib.hid (HPa.out.below hb)
  have HW := Lib.hid (HW.out.trans (hb.mono HW.out.size))
  have hxn : xn ≤ 1000000 := by have h1 := wo_len P R; rw [hx.1] at h1; have := HP.out.1; omega
  clear hx hb
  go_wp2_with fail
  refine (edits_s 5 id xo xn xc (withoutL P R) w3 HX.out hxn).mono ?_
  rintro e w4 ⟨v4, rfl, hrow, hb⟩
  have HRow := Lib.hid (hrow.mono HW.out.size)
  have HRa := Lib.hid (HRa.out.below hb)
  have HPa := Lib.hid (HPa.out.below hb)
  have HW := Lib.hid (HW.out.trans (hb.mono HW.out.size))
  clear hrow hb
  go_wp2_with fail
  refine (without_s ro po rn pn rc pc R P w4 HRa.out HPa.out (by omega) (by omega) HR.out.2 HP.out.2).mono ?_
  rintro e w5 ⟨yo, yn, yc, rfl, hy, hb⟩
  have HY := Lib.hid hy
  have HRow := Lib.hid (own_below HRow.out hb)
  have HW := Lib.hid (HW.out.trans (hb.mono HW.out.size))
  have hyn : yn ≤ 1000000 := by have h1 := wo_len R P; rw [hy.1] at h1; have := HR.out.1; omega
  clear hy hb
  go_wp2_with fail
  refine (edits_s 4 id yo yn yc (withoutL R P) w5 HY.out hyn).mono ?_
  rintro e w6 ⟨v6, rfl, hrow, hb⟩
  obtain ⟨zo, zc, hz, hzs⟩ := chs_of_owns hrow
  subst hz
  rw [List.length_map] at hzs
  have HZ := Lib.hid hzs
  have HRow := Lib.hid (own_below HRow.out hb)
  have HW := Lib.hid (HW.out.trans (hb.mono HW.out.size))
  have HN := Lib.hid (show ((withoutL P R).map (editG 5 id)).length + (withoutL R P).length ≤ 1000000000 from by
    rw [List.length_map]
    have h1 := wo_len P R; have h2 := wo_len R P; have h3 := HP.out.1; have h4 := HR.out.1; omega)
  clear hrow hb hzs
  go_wp2_with (at_builtin; go_loud (refine app_chs w6 HRow.out (.tmp 19) (.tmp 24) zo (withoutL R P).length zc ((withoutL R P).map (editG 4 id)) ?_ ?_ ?_ ?_ ?_ ?_ ?_ ?_; exact rfl; exact rfl; exact rfl; exact rfl; exact HZ.out; exact HN.out; exact HW.out.size; intro v7 w7 hown hb))
  go_ret
  rw [← chcells_app] at hown
  exact ⟨v7, rfl, by rw [HE.out, List.length_append]; simpa only [List.length_map] using hown, HW.out.trans hb⟩
end Go.Proofs.YtbkignlbcneddaaGreatDoor
end

section
/-
  Contract of the specification's missing. Condition: few attributes.
-/
set_option maxRecDepth 100000
namespace Go.Proofs.YtbkignlbcneddaaGreatDoor
open Go.RowKit Go.PlainAid
open Csn (KbC kbc_new box_below info_cparts)
/-- what the loops keep -/
structure MiI (w1 : World) (out : List Chg) (v : Value) (W : World) : Prop where
  low : Below w1.heap.size w1 W
  own : W.ownsRow w1.heap.size 26 8 v out.length (chcells out)
theorem MiI.step {w1 W V : World} {out : List Chg} {v : Value} (h : MiI w1 out v W) (hb : Below W.heap.size W V) : MiI w1 out v V :=
  ⟨h.low.trans (hb.mono h.low.size), own_below h.own hb⟩
end Go.Proofs.YtbkignlbcneddaaGreatDoor
end

section
/-
  Contract of the specification's Edits. Condition: few attributes with at most 100000 values.
-/
set_option maxRecDepth 100000
namespace Go.Proofs.YtbkignlbcneddaaGreatDoor
open Go.RowKit Go.PlainAid
open Csn (KbC kbc_new box_below)
end Go.Proofs.YtbkignlbcneddaaGreatDoor
end

section
/-
  The candidate that the reference lays from a line's words, and that checking it and its line says the same as reading. Nothing of the program stands here. No condition.
-/
set_option maxRecDepth 100000
namespace Go.Proofs.YtbkignlbcneddaaGreatDoor
open Go.PlainAid
open Csn (Cn Vld vldC parEC parVC fmtS fmtL parEC_fmt parEC_ok)
end Go.Proofs.YtbkignlbcneddaaGreatDoor
end

section
/-
  Contract of the reference's Parse of a line. Condition: a text of at most 1000000 bytes.
-/
set_option maxRecDepth 100000
namespace Go.Proofs.YtbkignlbcneddaaGreatDoor
open Go.RowKit Go.PlainAid
open Csn (Cn cnV cnB KbC kbc_new box_below box_lt parEC parVC vldC fmtS TzOk)
/-- what is kept: the candidate's box, how far the world has gone since the words were made -/
structure RqP (w1 : World) (g : Chg) (W : World) : Prop where
  low : Below w1.heap.size w1 W
  box : KbC W w1.heap.size (chB g)
theorem RqP.step {w1 W X : World} {g : Chg} (h : RqP w1 g W) (hb : Below W.heap.size W X) : RqP w1 g X := ⟨h.low.trans (hb.mono h.low.size), Csn.KbC.step h.box hb⟩
theorem RqP.set {w1 W : World} {g g' : Chg} (k : Nat) (u : Value) (h : RqP w1 g W) (e : (gcells g).set k u = gcells g') : RqP w1 g' (W.setCell ⟨w1.heap.size, k, none⟩ u) :=
  ⟨h.low.setCell (p := ⟨w1.heap.size, k, none⟩) (Nat.le_refl _) u, kbc_set k u h.box e⟩
end Go.Proofs.YtbkignlbcneddaaGreatDoor
end

section
/-
  Contract of the reference's Read. Condition: a text of at most 1000000 bytes.
-/
set_option maxRecDepth 100000
namespace Go.Proofs.YtbkignlbcneddaaGreatDoor
open Go.RowKit Go.PlainAid
open Csn (Cn cnV cnB KbC kbc_new box_below box_lt parEC parVC vldC fmtS TzOk)
end Go.Proofs.YtbkignlbcneddaaGreatDoor
end

section
/-
  Pure facts of the law's examples. No condition.
-/
set_option maxRecDepth 100000
namespace Go.Proofs.YtbkignlbcneddaaGreatDoor
open Go.RowKit Go.PlainAid
open Csn (Cn cnV cnB KbC kbc_new box_below box_lt parEC parVC vldC fmtS TzOk CnsAt)
def aN : Cn := (5, 1, 0)
def aM : Cn := (3, 0, 0)
def aId : ByteArray := fmtS aM
def rDrop (id : ByteArray) : Chg := ⟨aN, 5, id, ⟨#[]⟩, ⟨#[99, 110]⟩, ⟨#[97, 32, 98]⟩⟩
def rFirst (id : ByteArray) : Chg := ⟨aM, 2, id, ⟨#[]⟩, ⟨#[]⟩, ⟨#[]⟩⟩
def rBad (id : ByteArray) : Chg := ⟨aM, 2, id, ⟨#[]⟩, ⟨#[]⟩, ⟨#[97]⟩⟩
def rEmpty (id : ByteArray) : Chg := ⟨aN, 5, id, ⟨#[]⟩, ⟨#[99, 110]⟩, ⟨#[]⟩⟩
abbrev aDrop : Chg := rDrop aId
abbrev aFirst : Chg := rFirst aId
abbrev aBad : Chg := rBad aId
abbrev aEmpty : Chg := rEmpty aId
def attA : List At := [(⟨#[99, 110]⟩, [⟨#[97]⟩])]
def attB : List At := [(⟨#[99, 110]⟩, [⟨#[98]⟩])]
def edG (id : ByteArray) : List Chg := [⟨(0, 0, 0), 5, id, ⟨#[]⟩, ⟨#[99, 110]⟩, ⟨#[97]⟩⟩, ⟨(0, 0, 0), 4, id, ⟨#[]⟩, ⟨#[99, 110]⟩, ⟨#[98]⟩⟩]
theorem aw1 : chkG aDrop = 0 := by decide +kernel
theorem aw2 : lnV aDrop = (((⟨#[100, 114, 111, 112, 32]⟩ : ByteArray) ++ fmtS aN) ++ ⟨#[32]⟩ ++ aId) ++ ⟨#[32, 99, 110, 32, 97, 37, 50, 48, 98]⟩ := by decide +kernel
theorem aw3 : chkG aBad = 4 := by decide +kernel
theorem aw4 : chkG aEmpty = 8 := by decide +kernel
theorem aw5 : (rdG ⟨#[120, 10]⟩).2.1 = 1 ∧ (rdG ⟨#[120, 10]⟩).2.2 = 4 := by decide +kernel
theorem aw6 : vecG [aDrop, aFirst] = [aN] := by decide +kernel
theorem aw7 : sinceG [aDrop, aFirst] [aN] = [] := by decide +kernel
theorem aw8 : editsG aId attA attB = edG aId := by decide +kernel
theorem aw9 : mergeG [aDrop, aFirst] [aFirst] = [aFirst, aDrop] := by decide +kernel
theorem aw10 : aId.size ≤ 22 := by decide +kernel
theorem small_dec {l : List ByteArray} (h : l.all (fun v => decide (v.size ≤ 1000)) = true) : SmallS l := fun v hv => by
  have := List.all_eq_true.1 h v hv
  have := of_decide_eq_true this
  omega
theorem smallA_dec {l : List At} (h : l.all (fun a => decide (a.1.size ≤ 1000) && a.2.all (fun v => decide (v.size ≤ 1000))) = true) : SmallA l := fun a ha => by
  have := List.all_eq_true.1 h a ha
  rw [Bool.and_eq_true] at this
  exact ⟨by have := of_decide_eq_true this.1; omega, small_dec this.2⟩
theorem few_dec {l : List At} (h : (l.all (fun a => decide (a.1.size ≤ 1000) && a.2.all (fun v => decide (v.size ≤ 1000))) && decide (sumV l ≤ 1000) && decide (l.length ≤ 40)) = true) : Few l := by
  rw [Bool.and_eq_true, Bool.and_eq_true] at h
  exact ⟨smallA_dec h.1.1, by have := of_decide_eq_true h.1.2; omega, by have := of_decide_eq_true h.2; omega⟩
theorem few_a : Few attA := few_dec (by decide +kernel)
theorem few_b : Few attB := few_dec (by decide +kernel)
theorem sum_a : sumV attA ≤ 100000 := by decide +kernel
theorem sum_b : sumV attB ≤ 100000 := by decide +kernel
theorem strs_one (w : World) (a : ByteArray) : StrsAt (w.alloc (.cells #[.string a] 9)) (some ⟨w.heap.size, 0, none⟩) 1 1 [a] :=
  ⟨rfl, Nat.le_refl _, by decide, fun _ => ⟨_, 0, rfl, by simp, fun j hj => by
    have hj' : j = 0 := by simp at hj; omega
    subst hj'
    exact Csn.KbC.cell (kbc_new w _) rfl⟩⟩
/-- a slice of one attribute with one value, as a literal lays it -/
theorem atts_one (w : World) (n a : ByteArray) : AttrsAt ((w.alloc (.cells #[.string a] 9)).alloc (.cells #[.string n, .slice (some ⟨w.heap.size, 0, none⟩) 1 1] 60)) (some ⟨w.heap.size + 1, 0, none⟩) 1 1 [(n, [a])] :=
  have hb := kbc_new (w.alloc (.cells #[.string a] 9)) (.cells #[.string n, .slice (some ⟨w.heap.size, 0, none⟩) 1 1] 60)
  ⟨rfl, Nat.le_refl _, by decide, fun _ => ⟨_, 0, rfl, by simp, fun j hj => by
    have hj' : j = 0 := by omega
    subst hj'
    rw [World.size_alloc] at hb
    exact ⟨Csn.KbC.cell hb rfl, _, _, _, Csn.KbC.cell hb rfl, (strs_one w a).below (box_below _ _)⟩⟩⟩
/-- a slice of records that a literal lays -/
theorem chs_new (w : World) (l : List Chg) (h : l.length ≤ maxLen) : ChsAt (w.alloc (.cells (chcells l).toArray 26)) (some ⟨w.heap.size, 0, none⟩) l.length l.length l :=
  ⟨rfl, Nat.le_refl _, h, fun _ => ⟨w.heap.size, 0, rfl, by simp, fun j hj k hk => by
    rw [Nat.zero_add, ← chcells_at l j k hj hk]
    have hb := heap_alloc_new w (.cells (chcells l).toArray 26)
    unfold World.cell?
    simp only [hb]
    simp⟩, fun e => by cases e⟩
theorem chs_two (w : World) (g h : Chg) : ChsAt (w.alloc (.cells (gcells g ++ gcells h).toArray 26)) (some ⟨w.heap.size, 0, none⟩) 2 2 [g, h] := by
  have := chs_new w [g, h] (show 2 ≤ maxLen by decide)
  rw [show chcells [g, h] = gcells g ++ gcells h by simp [chcells]] at this
  exact this
theorem chs_one (w : World) (g : Chg) : ChsAt (w.alloc (.cells (gcells g).toArray 26)) (some ⟨w.heap.size, 0, none⟩) 1 1 [g] := by
  have := chs_new w [g] (show 1 ≤ maxLen by decide)
  rw [show chcells [g] = gcells g by simp [chcells]] at this
  exact this
theorem line_k (t s r o : Int) (id nm ak vl x : ByteArray) (z : Int) (w : World) (hz : SmG ⟨(t, s, r), o, id, nm, ak, vl⟩) (ho : COk w) (hx : lnV ⟨(t, s, r), o, id, nm, ak, vl⟩ = x) (hc : chkG ⟨(t, s, r), o, id, nm, ak, vl⟩ = z) :
    Calls Tryz.prog 13 #[.agg #[.int .i64 t, .int .i64 s, .int .i64 r, .int .i64 o, .string id, .string nm, .string ak, .string vl]] w fun e w' => e = .returned (.tuple #[.string x, .int .i64 z]) ∧ Below w.heap.size w w' := by
  subst hx hc; exact lineE_s ⟨(t, s, r), o, id, nm, ak, vl⟩ w hz ho
theorem chk_k (t s r o : Int) (id nm ak vl : ByteArray) (z : Int) (w : World) (hz : SmG ⟨(t, s, r), o, id, nm, ak, vl⟩) (ho : MaxOk w) (hc : chkG ⟨(t, s, r), o, id, nm, ak, vl⟩ = z) :
    Calls Tryz.prog 17 #[.agg #[.int .i64 t, .int .i64 s, .int .i64 r, .int .i64 o, .string id, .string nm, .string ak, .string vl]] w fun e w' => e = .returned (.int .i64 z) ∧ Below w.heap.size w w' := by
  subst hc; exact chkg_s ⟨(t, s, r), o, id, nm, ak, vl⟩ w hz ho
theorem vec_k (ao : Option Addr) (n cap : Nat) (l : List Chg) (c : List Cn) (q : Nat) (w : World) (h : ChsAt w ao n cap l) (hn : n ≤ 1000000) (hc : vecG l = c) (hq : c.length = q) :
    Calls Tryz.prog 29 #[.slice ao n cap] w fun e w' => ∃ vo vc, e = .returned (.slice vo q vc) ∧ CnsAt w' vo q vc c ∧ Below w.heap.size w w' := by
  subst hc hq
  exact (vector_s ao n cap l w h hn).mono fun e w' ⟨vo, m, vc, he, hv, hb⟩ => by
    have := hv.1
    subst this
    exact ⟨vo, vc, he, hv, hb⟩
theorem since_k (ao : Option Addr) (n cap : Nat) (l : List Chg) (vo : Option Addr) (vn vc : Nat) (cs : List Cn) (r : List Chg) (q : Nat) (w : World) (h : ChsAt w ao n cap l) (hv : CnsAt w vo vn vc cs) (hn : n ≤ 1000000) (hr : sinceG l cs = r) (hq : r.length = q) :
    Calls Tryz.prog 26 #[.slice ao n cap, .slice vo vn vc] w fun e w' => ∃ xo xc, e = .returned (.slice xo q xc) ∧ ChsAt w' xo q xc r ∧ Below w.heap.size w w' := by
  subst hr hq
  exact (since_s ao n cap l vo vn vc cs w h hv hn).mono fun e w' ⟨v, he, hv, hb⟩ => by
    obtain ⟨xo, xc, rfl, hx⟩ := chs_of_owns hv
    exact ⟨xo, xc, he, hx, hb⟩
theorem edits_k (id : ByteArray) (ao bo : Option Addr) (n m cap dap : Nat) (l k : List At) (r : List Chg) (q : Nat) (w : World) (h : AttrsAt w ao n cap l) (hk : AttrsAt w bo m dap k) (hF : Few l) (hG : Few k) (hv : sumV l ≤ 100000) (hu : sumV k ≤ 100000) (hr : editsG id l k = r) (hq : r.length = q) :
    Calls Tryz.prog 32 #[.string id, .slice ao n cap, .slice bo m dap] w fun e w' => ∃ xo xc, e = .returned (.slice xo q xc) ∧ ChsAt w' xo q xc r ∧ Below w.heap.size w w' := by
  subst hr hq
  exact (chedits_s id ao bo n m cap dap l k w h hk hF hG hv hu).mono fun e w' ⟨v, he, hv, hb⟩ => by
    obtain ⟨xo, xc, rfl, hx⟩ := chs_of_owns hv
    exact ⟨xo, xc, he, hx, hb⟩
theorem merge_k (ao bo : Option Addr) (n m cap dap : Nat) (a b r : List Chg) (q : Nat) (w : World) (h : ChsAt w ao n cap a) (k : ChsAt w bo m dap b) (hz : ∀ d ∈ a ++ b, SmG d ∧ cnDom d.c) (hn : n ≤ 10000) (hm : m ≤ 10000) (ho : COk w) (hr : mergeG a b = r) (hq : r.length = q) :
    Calls Tryz.prog 24 #[.slice ao n cap, .slice bo m dap] w fun e w' => ∃ xo xc, e = .returned (.slice xo q xc) ∧ ChsAt w' xo q xc r ∧ Below w.heap.size w w' := by
  subst hr hq
  exact (chmerge_s ao bo n m cap dap a b w h k hz hn hm ho).mono fun e w' ⟨xo, q', xc, he, hx, hb⟩ => by
    have := hx.1
    subst this
    exact ⟨xo, xc, he, hx, hb⟩
theorem read_k (s : ByteArray) (a b : Int) (w : World) (hs : s.size ≤ 1000000) (ho : COk w) (ha : (rdG s).2.1 = a) (hb : (rdG s).2.2 = b) :
    Calls Tryz.prog 21 #[.string s] w fun e w' => ∃ xo xc, e = .returned (.tuple #[.slice xo (rdG s).1.length xc, .int .i64 a, .int .i64 b]) ∧ ChsAt w' xo (rdG s).1.length xc (rdG s).1 ∧ Below w.heap.size w w' := by
  subst ha hb
  exact (chread_s s w hs ho).mono fun e w' ⟨v, he, hv, hb⟩ => by
    obtain ⟨xo, xc, rfl, hx⟩ := chs_of_owns hv
    exact ⟨xo, xc, he, hx, hb⟩
/-- the boxes of awake -/
structure AwG (w : World) (q : Nat) (id : ByteArray) (V : World) : Prop where
  low : Below w.heap.size w V
  ok : COk V
  k1 : KbC V w.heap.size (.cells #[.int .i64 5, .int .i64 1, .int .i64 0] 23)
  k3 : KbC V q (chB (rDrop id))
  k4 : KbC V (q + 1) (chB (rFirst id))
  k5 : KbC V (q + 1 + 1) (chB (rBad id))
  k6 : KbC V (q + 1 + 1 + 1) (chB (rEmpty id))
theorem AwG.step {w V X : World} {q : Nat} {id : ByteArray} (h : AwG w q id V) (hb : Below V.heap.size V X) : AwG w q id X :=
  ⟨h.low.trans (hb.mono h.low.size), h.ok.step hb, Csn.KbC.step h.k1 hb, Csn.KbC.step h.k3 hb, Csn.KbC.step h.k4 hb, Csn.KbC.step h.k5 hb, Csn.KbC.step h.k6 hb⟩
theorem awg_new {w w1 : World} {id : ByteArray} (hb : Below w.heap.size w w1) (ho : COk w1) (h1 : KbC w1 w.heap.size (.cells #[.int .i64 5, .int .i64 1, .int .i64 0] 23)) :
    AwG w w1.heap.size id ((((w1.alloc (chB (rDrop id))).alloc (chB (rFirst id))).alloc (chB (rBad id))).alloc (chB (rEmpty id))) := by
  have b1 := box_below w1 (chB (rDrop id))
  have b2 := box_below (w1.alloc (chB (rDrop id))) (chB (rFirst id))
  have b3 := box_below ((w1.alloc (chB (rDrop id))).alloc (chB (rFirst id))) (chB (rBad id))
  have b4 := box_below (((w1.alloc (chB (rDrop id))).alloc (chB (rFirst id))).alloc (chB (rBad id))) (chB (rEmpty id))
  have t := ((b1.trans (b2.mono b1.size)).trans (b3.mono (Nat.le_trans b1.size b2.size))).trans (b4.mono (Nat.le_trans b1.size (Nat.le_trans b2.size b3.size)))
  have q3 := kbc_new w1 (chB (rDrop id))
  have q4 := kbc_new (w1.alloc (chB (rDrop id))) (chB (rFirst id))
  have q5 := kbc_new ((w1.alloc (chB (rDrop id))).alloc (chB (rFirst id))) (chB (rBad id))
  have q6 := kbc_new (((w1.alloc (chB (rDrop id))).alloc (chB (rFirst id))).alloc (chB (rBad id))) (chB (rEmpty id))
  rw [World.size_alloc] at q4
  rw [World.size_alloc, World.size_alloc] at q5
  rw [World.size_alloc, World.size_alloc, World.size_alloc] at q6
  exact ⟨hb.trans (t.mono hb.size), ho.step t, Csn.KbC.step h1 t, Csn.KbC.step (Csn.KbC.step (Csn.KbC.step q3 b2) b3) b4, Csn.KbC.step (Csn.KbC.step q4 b3) b4, Csn.KbC.step q5 b4, q6⟩
theorem box8 {V : World} {q : Nat} {t s r o : Int} {id nm ak vl : ByteArray} (h : KbC V q (chB ⟨(t, s, r), o, id, nm, ak, vl⟩)) :
    V.cell? ⟨q, 0, none⟩ = some (.int .i64 t) ∧ V.cell? ⟨q, 1, none⟩ = some (.int .i64 s) ∧ V.cell? ⟨q, 2, none⟩ = some (.int .i64 r) ∧ V.cell? ⟨q, 3, none⟩ = some (.int .i64 o) ∧
    V.cell? ⟨q, 4, none⟩ = some (.string id) ∧ V.cell? ⟨q, 5, none⟩ = some (.string nm) ∧ V.cell? ⟨q, 6, none⟩ = some (.string ak) ∧ V.cell? ⟨q, 7, none⟩ = some (.string vl) :=
  ⟨Csn.KbC.cell h rfl, Csn.KbC.cell h rfl, Csn.KbC.cell h rfl, Csn.KbC.cell h rfl, Csn.KbC.cell h rfl, Csn.KbC.cell h rfl, Csn.KbC.cell h rfl, Csn.KbC.cell h rfl⟩
theorem box3 {V : World} {q : Nat} {t s r : Int} (h : KbC V q (.cells #[.int .i64 t, .int .i64 s, .int .i64 r] 23)) :
    V.cell? ⟨q, 0, none⟩ = some (.int .i64 t) ∧ V.cell? ⟨q, 1, none⟩ = some (.int .i64 s) ∧ V.cell? ⟨q, 2, none⟩ = some (.int .i64 r) :=
  ⟨Csn.KbC.cell h rfl, Csn.KbC.cell h rfl, Csn.KbC.cell h rfl⟩
theorem id_small : aId.size ≤ 22 := aw10
theorem sm_of {t s r o : Int} {id nm ak vl : ByteArray} (h : id.size ≤ 22) (h1 : nm.size ≤ 22) (h2 : ak.size ≤ 22) (h3 : vl.size ≤ 22) : SmG ⟨(t, s, r), o, id, nm, ak, vl⟩ :=
  ⟨by show id.size ≤ _; omega, by show nm.size ≤ _; omega, by show ak.size ≤ _; omega, by show vl.size ≤ _; omega⟩
end Go.Proofs.YtbkignlbcneddaaGreatDoor
end
