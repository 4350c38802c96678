/-
  Contract of attrs.Remove. Condition: as the specification's.
-/
import Derived.Test.YtahpocpagidahaaAttP7
set_option linter.unusedVariables false
set_option linter.unusedSimpArgs false
set_option linter.unnecessarySimpa false
namespace Go.Proofs.Ytahpocpagidahaa
open Go.RowKit Go.PlainAid Go.Maps Go.ChangeMaps

def leftF (old vs : List ByteArray) (j : Nat) (k : ByteArray) : Bool := memB old k && !memB (vs.take j) k
theorem leftF_step {old vs : List ByteArray} {j : Nat} (h : j < vs.length) : (fun k => leftF old vs j k && !decide (partAt vs j = k)) = leftF old vs (j + 1) := by
  funext k
  unfold leftF
  rw [take_snoc vs j h, memB_snoc]
  cases memB old k <;> cases memB (vs.take j) k <;> cases decide (partAt vs j = k) <;> rfl
theorem left_filter {old vs : List ByteArray} (h : 0 < vs.length) : old.filter (leftF old vs vs.length) = leftV old vs := by
  unfold leftV
  refine List.filter_congr fun v hv => ?_
  unfold leftF
  rw [memB_iff.2 hv, List.take_length, decide_eq_true h]
theorem left_none {old vs : List ByteArray} (h : vs.length = 0) : old.filter (fun _ => false) = leftV old vs := by
  unfold leftV
  refine List.filter_congr fun v hv => ?_
  rw [decide_eq_false (by omega)]; rfl
theorem rem_with {l : List At} {T B M A : List Tr} {hv : Value} {name : ByteArray} (hT : tats T = nf l) (h : Parts T (lowS name) B M A hv) (vs : List ByteArray) : joinL (tats B) (tats A) (lowS name) vs = withL l name vs := join_with hT h vs
theorem Beside.later {w w' : World} {base f : Nat} {v : Value} {ao : Option Addr} {T : List Tr} (h : Beside w base v ao T) (hb : Below f w w') (hf : w.heap.size ≤ f) : Beside w' base v ao T := h.below (hb.mono hf)

set_option maxRecDepth 100000 in
set_option maxHeartbeats 8000000 in
theorem rem_s (ao vo : Option Addr) (n cap vn vc : Nat) (l : List At) (name : ByteArray) (vs : List ByteArray) (w : World) (h : AttrsAt w ao n cap l) (hv : StrsAt w vo vn vc vs) (hF : Edit l vs) (hns : name.size ≤ 1000000) :
    Calls Try.prog 31 #[.slice ao n cap, .string name, .slice vo vn vc] w fun e w' => ∃ v, e = .returned (.tuple #[v, .int .i64 (remR l name vs).2]) ∧ AttsR w' v (remR l name vs).1 ∧ Below w.heap.size w w' := by
  have hvl : vs.length = vn := hv.1
  have hvm : vn ≤ 9223372036854775807 := Nat.le_trans hv.2.1 hv.2.2.1
  have HV := Lib.hid hv
  have HR := Lib.hid (sorted_s ao n cap l w h hF.few)
  have HF := Lib.hid hF
  clear h hv hF
  cases hnm : nameB name with
  | false =>
    have HL := Lib.hid (show remR l name vs = ([], 5) from if_pos hnm)
    go_enter Try.func31, Try.ntmps31
    go_wp2_with (go_at_call 37; refine (name_s name _ (by omega)).mono ?_; rintro e w' ⟨rfl, rfl⟩; rw [hnm])
    go_ret2
    exact ⟨_, by rw [HL.out]; rfl, by rw [HL.out]; exact atts_nil _, Below.refl _ _⟩
  | true =>
    have hlen := Nat.le_trans (nf_len l) HF.out.few.len
    have HL0 := Lib.hid (show remR l name vs = if (vals l (lowS name)).length = 0 then ([], 6) else if remE vs (vals l (lowS name)) ≠ 0 then ([], 6) else (withL l name (leftV (vals l (lowS name)) vs), 0) by unfold remR; rw [if_neg (by rw [hnm]; simp)])
    go_enter Try.func31, Try.ntmps31
    go_wp2_with (go_at_call 37; refine (name_s name _ (by omega)).mono ?_; rintro e w' ⟨rfl, rfl⟩; rw [hnm])
    refine HR.out.mono ?_
    rintro e w1 ⟨v, T, rfl, hT, hTO, hTA, hown, hb⟩
    obtain ⟨hTl, xo, xc, rfl, hat, _, hzz, hp⟩ := ts_owns hown
    have HRD := Lib.hid (around_s xo T.length xc T name w1 hat (nf_names_asc hT) (by rw [← tats_len, hT]; exact hlen) hzz hp hns)
    have HB1 := Lib.hid hb
    have HT := Lib.hid hT
    have HTO := Lib.hid hTO
    have HTA := Lib.hid hTA
    have HOW := Lib.hid hown
    have hTl2 : T.length ≤ 1000 := by rw [← tats_len, hT]; exact hlen
    have HP0 := Lib.hid hp
    clear HR hat hTO hTA hb hown hT hlen hzz hp hTl
    go_wp2_with fail
    refine HRD.out.mono ?_
    rintro e w2 ⟨B, M, A, hv, bo, c, rfl, hP, hTB, hTA2, hL, hb⟩
    have hOwn := own_below (parts_own HT.out hP HTO.out) hb
    obtain ⟨hBB, hBA⟩ := parts_beside hP HTO.out HTA.out HOW.out hL
    have HBB := Lib.hid (hBB.below hb)
    have HBA := Lib.hid (hBA.below hb)
    have HTB := Lib.hid hTB
    have HTA2 := Lib.hid hTA2
    have HB2 := Lib.hid (HB1.out.trans (hb.mono HB1.out.size))
    have hBl : B.length ≤ 1000 := by have := congrArg List.length hP.all; rw [List.length_append, List.length_append] at this; omega
    have hAl : A.length ≤ 1000 := by have := congrArg List.length hP.all; rw [List.length_append, List.length_append] at this; omega
    have hzB : xo = none → B.length = 0 := fun e => by
      rcases Nat.eq_zero_or_pos B.length with k | k
      · exact k
      · obtain ⟨_, _, e2, _⟩ := hTB.2.2.2 k
        rw [e] at e2; cases e2
    have HJ := Lib.hid (join_with (name := name) HT.out hP)
    obtain ⟨old, hold⟩ : ∃ x, vals l (lowS name) = x := ⟨_, rfl⟩
    have hol : old.length ≤ 40000 := by rw [← hold]; exact Nat.le_trans (vals_len _ _) HF.out.tot
    have HOS := Lib.hid (show SmallS old by rw [← hold]; exact vals_small HF.out.small _)
    rw [hold] at hOwn HL0
    obtain ⟨yn, hyn⟩ : ∃ x, old.length = x := ⟨_, rfl⟩
    rw [hyn] at hOwn HL0
    clear hold hP hL hb hBB hBA hTB hTA2 HRD HTO HTA HOW
    by_cases hz : yn = 0
    · have HL := Lib.hid (show remR l name vs = ([], 6) by rw [HL0.out, if_pos hz])
      obtain ⟨yo, yc, rfl, hy⟩ := strs_own hOwn hyn
      have q0 : ((yn : Int) == 0) = true := by simpa using hz
      clear hz hyn
      go_wp2_with fail
      go_ret2
      exact ⟨_, by rw [HL.out]; rfl, by rw [HL.out]; exact atts_nil _, HB2.out⟩
    · have HL1 := Lib.hid (show remR l name vs = if remE vs old ≠ 0 then ([], 6) else (withL l name (leftV old vs), 0) by rw [HL0.out, if_neg hz])
      have q0 : ((yn : Int) == 0) = false := by simpa using hz
      obtain ⟨g, yc, rfl, hbg, hgl⟩ := hOwn.form (by omega)
      have hy : StrsAt w2 (some ⟨g, 0, none⟩) yn yc old := own_strs hOwn hyn
      have HSO := Lib.hid (setOf_s _ yn yc old w2 hy (by omega) HOS.out)
      have HOwn := Lib.hid hOwn
      clear hy hz HL0 hOwn
      go_wp2_with fail
      refine HSO.out.mono ?_
      rintro e w3 ⟨rfl, ⟨D0, hS⟩, hb⟩
      have G0 := Lib.hid (BMap.of hS)
      have HB3 := Lib.hid hb
      have hs3 := hb.size
      have hm3 : w2.heap.size < w3.heap.size := hS.map.lt
      clear hS hb HSO
      go_wp2_with fail
      obtain ⟨W4, hW4⟩ : ∃ x, w3.alloc (.cells #[.map (some w2.heap.size)] 43) = x := ⟨_, rfl⟩
      have hb4 : Below w3.heap.size w3 W4 := by rw [← hW4]; exact (Below.refl _ w3).alloc (Nat.le_refl _) _
      have hbox : W4.cell? ⟨w3.heap.size, 0, none⟩ = some (.map (some w2.heap.size)) := by rw [← hW4]; exact cell_one_new _ _ _ 0 _ rfl
      have G4 := Lib.hid (G0.out.below hb4)
      have HB4 := Lib.hid (HB3.out.trans (hb4.mono hs3))
      have hs4 : w3.heap.size < W4.heap.size := by rw [← hW4]; simp
      rw [hW4]
      clear hW4 hb4 G0
      go_loopw [13, 32] (fun s13 iv wr => ∃ (j : Nat) (D : DataW Unit), j ≤ vn ∧ iv = .int .i64 j ∧ Hid (∀ q, q < j → errR vs old q = 0) ∧ Hid (BMap wr w2.heap.size yn D (leftF old vs j)) ∧ Hid (W4.grownBy wr (some w2.heap.size))) (fun _ iv _ => vn - (intOf iv).toNat)
      case atStart => exact ⟨0, D0, Nat.zero_le _, rfl, Lib.hid (fun q hq => absurd hq (Nat.not_lt_zero _)), Lib.hid (by
        have e : memB old = leftF old vs 0 := by funext k; unfold leftF; rw [List.take_zero]; simp [memB]
        rw [← e]; exact G4.out), Lib.hid (grown_refl _ _)⟩
      case round =>
        obtain ⟨j, D, hj, rfl, HE, HG, HW⟩ := hrel
        have hboxr := HW.out.cell hbox (fun e => by have e' : w3.heap.size = w2.heap.size := Option.some.inj e; omega)
        by_cases hlt : j < vn
        · obtain ⟨b, off, rfl, hs⟩ := HV.out.2.2.2 (by omega)
          have hb1 : b < w.heap.size := hs.1
          have hsz2 := HB2.out.size
          have hcell2 := (hs.below HB2.out hs.1).2 j (by omega)
          have hcell4 := (HB4.out.cell (p := ⟨b, off + j, none⟩) (by show b < _; omega)).trans hcell2
          have hcell := HW.out.cell hcell4 (fun e => by have e' : b = w2.heap.size := Option.some.inj e; omega)
          clear hs hcell2 hcell4
          have HER := Lib.hid (show errR vs old j = if memB old (partAt vs j) = false ∨ memB (vs.take j) (partAt vs j) = true then 6 else 0 from rfl)
          have HFE := Lib.hid (fun (e : errR vs old j ≠ 0) => firstE_hit (f := errR vs old) (n := vs.length) HE.out e (by omega))
          have HST := Lib.hid (leftF_step (old := old) (vs := vs) (j := j) (by omega))
          obtain ⟨p, hp⟩ : ∃ x, partAt vs j = x := ⟨_, rfl⟩
          have hps : p.size ≤ 1000000 := by rw [← hp]; exact HF.out.vsmall _ (part_mem vs j (by omega))
          rw [hp] at hcell HER HST
          clear hp
          have hlook := HG.out.look p (by unfold maxLen; omega)
          have d1 : (j : Int) < (vn : Int) := by omega
          obtain ⟨t, ht⟩ : ∃ x, leftF old vs j p = x := ⟨_, rfl⟩
          rw [ht] at hlook
          cases t with
          | false =>
            have HL := Lib.hid (show remR l name vs = ([], 6) by
              unfold leftF at ht
              have hc : memB old p = false ∨ memB (vs.take j) p = true := by
                cases h1 : memB old p
                · exact .inl rfl
                · rw [h1] at ht; cases h2 : memB (vs.take j) p
                  · rw [h2] at ht; simp at ht
                  · exact .inr rfl
              rw [if_pos hc] at HER
              have h5 := HFE.out (by rw [HER.out]; decide)
              rw [HL1.out, if_pos (by unfold remE; rw [h5, HER.out]; decide)])
            clear ht
            go_wp2_with fail
            go_ret2
            refine ⟨_, by rw [HL.out]; rfl, by rw [HL.out]; exact atts_nil _, ?_⟩
            exact (HB2.out.trans (HB4.out.mono hsz2)).grown HW.out (by omega) (fun q hq => by have := Option.some.inj hq; omega)
          | true =>
            have HZ := Lib.hid (show errR vs old j = 0 by
              unfold leftF at ht
              rw [Bool.and_eq_true] at ht
              have h2 : memB (vs.take j) p = false := by simpa using ht.2
              rw [HER.out, ht.1, h2]; simp)
            clear ht
            obtain ⟨w', hrun, hG, hg⟩ := HG.out.drop p (by unfold maxLen; omega) 0
            have hrun2 := fun ty => (HG.out.drop p (by unfold maxLen; omega) ty)
            rw [HST.out] at hG
            have HG2 := Lib.hid hG
            have HW2 := Lib.hid (grown_two HW.out hg)
            clear hG hg hrun2
            go_wp2_with fail
            go_roundw
            case rel =>
              refine ⟨j + 1, _, by omega, by go_num, Lib.hid fun q hq => ?_, HG2, HW2⟩
              by_cases e : q = j
              · rw [e]; exact HZ.out
              · exact HE.out q (by omega)
            case measure => simp [intOf]; omega
        · obtain rfl : vn = j := by omega
          have HL := Lib.hid (show remR l name vs = (withL l name (leftV old vs), 0) by
            rw [HL1.out, if_neg]
            rw [Classical.not_not]
            exact firstE_zero fun q hq => HE.out q (by omega))
          have hsw2 := HB2.out.size
          have hgne : (Value.slice (some ⟨g, 0, none⟩) yn yc).ownBlock = none ∨ (Value.slice (some ⟨g, 0, none⟩) yn yc).ownBlock ≠ some w2.heap.size := .inr (fun e => by have e' : g = w2.heap.size := Option.some.inj e; omega)
          have HOr := Lib.hid ((own_below HOwn.out HB4.out).kept HW.out hgne)
          have HBr := Lib.hid (HB4.out.grown HW.out (by omega) (fun q hq => by have := Option.some.inj hq; omega))
          clear HE HL1
          by_cases hv0 : vn = 0
          · have q1 : ((vn : Int) == 0) = true := by simpa using hv0
            obtain ⟨wc, hrun, hGc, hgc⟩ := HG.out.cleared 0
            have HGc := Lib.hid hGc
            have HOc := Lib.hid (HOr.out.kept hgc hgne)
            have HBc := Lib.hid (HBr.out.grown hgc (by have := HBr.out.size; omega) (fun q hq => by have := Option.some.inj hq; omega))
            have hboxc := hgc.cell hboxr (fun e => by have e' : w3.heap.size = w2.heap.size := Option.some.inj e; omega)
            have hfe := left_none (old := old) (vs := vs) (by omega)
            have HFE := Lib.hid hfe
            clear hGc hgc hfe hv0 hvl
            have HD := Lib.hid (delv_s w.heap.size g yc yn w3.heap.size w2.heap.size yn (.map []) (fun _ => false) old wc HOc.out hyn (fun v hv => Nat.le_trans (HOS.out v hv) (by unfold maxLen; omega)) hboxc HGc.out (by omega) (by omega) (by omega))
            rw [HFE.out] at HD
            have HBW := Lib.hid (HBc.out)
            obtain ⟨m, hm⟩ : ∃ x, (leftV old vs).length = x := ⟨_, rfl⟩
            have hml : m ≤ 40000 := by rw [← hm]; exact Nat.le_trans (left_len old vs) hol
            rw [hm] at HD
            go_wp2_with fail
            refine HD.out.mono ?_
            rintro e w5 ⟨rfl, hown5, hg5⟩
            have hBBr := HBB.out.below HBW.out
            have hBAr := HBA.out.below HBW.out
            have hBB5 := hBBr.grown (v' := .slice (some ⟨g, 0, none⟩) m yc) hg5 (.inl rfl)
            have hBA5 := hBAr.grown (v' := .slice (some ⟨g, 0, none⟩) m yc) hg5 (.inl rfl)
            have hTB5 := hBBr.ts (HTB.out.below HBW.out) hg5
            have hTA5 := hBAr.ts (HTA2.out.below HBW.out) hg5
            have hs6 := HBW.out.size
            have hsw := HB2.out.size
            have HB5 := Lib.hid ((HB2.out.trans (HBW.out.mono hsw)).grown hg5 (by omega) (fun q hq => by have := Option.some.inj hq; omega))
            have HJN := Lib.hid (joined_s xo (some ⟨g, 0, none⟩) bo m yc c w.heap.size B A name (leftV old vs) w5 hTB5 hzB HP0.out hTA5 (fun _ => hBB5) (fun _ => hBA5) hBB5.tok hBA5.tok (fun _ => hown5) hm hBl hAl (by omega) hns HB5.out.size)
            rw [HJ.out] at HJN
            clear hBBr hBAr hBB5 hBA5 hTB5 hTA5 hown5 hg5
            go_wp2_with fail
            refine HJN.out.mono ?_
            rintro e w6 ⟨zo, zc, rfl, hat, hb⟩
            go_wp2_with fail
            go_ret2
            exact ⟨_, by rw [HL.out]; rfl, by rw [HL.out]; exact ⟨zo, _, zc, rfl, hat⟩, HB5.out.trans hb⟩
          · have q1 : ((vn : Int) == 0) = false := by simpa using hv0
            have HFE := Lib.hid (show old.filter (leftF old vs vn) = leftV old vs by rw [← hvl]; exact left_filter (by omega))
            clear hv0 hvl
            have HD := Lib.hid (delv_s w.heap.size g yc yn w3.heap.size w2.heap.size yn D (leftF old vs vn) old wr HOr.out hyn (fun v hv => Nat.le_trans (HOS.out v hv) (by unfold maxLen; omega)) hboxr HG.out (by omega) (by omega) (by omega))
            rw [HFE.out] at HD
            have HBW := Lib.hid (HBr.out)
            obtain ⟨m, hm⟩ : ∃ x, (leftV old vs).length = x := ⟨_, rfl⟩
            have hml : m ≤ 40000 := by rw [← hm]; exact Nat.le_trans (left_len old vs) hol
            rw [hm] at HD
            go_wp2_with fail
            refine HD.out.mono ?_
            rintro e w5 ⟨rfl, hown5, hg5⟩
            have hBBr := HBB.out.below HBW.out
            have hBAr := HBA.out.below HBW.out
            have hBB5 := hBBr.grown (v' := .slice (some ⟨g, 0, none⟩) m yc) hg5 (.inl rfl)
            have hBA5 := hBAr.grown (v' := .slice (some ⟨g, 0, none⟩) m yc) hg5 (.inl rfl)
            have hTB5 := hBBr.ts (HTB.out.below HBW.out) hg5
            have hTA5 := hBAr.ts (HTA2.out.below HBW.out) hg5
            have hs6 := HBW.out.size
            have hsw := HB2.out.size
            have HB5 := Lib.hid ((HB2.out.trans (HBW.out.mono hsw)).grown hg5 (by omega) (fun q hq => by have := Option.some.inj hq; omega))
            have HJN := Lib.hid (joined_s xo (some ⟨g, 0, none⟩) bo m yc c w.heap.size B A name (leftV old vs) w5 hTB5 hzB HP0.out hTA5 (fun _ => hBB5) (fun _ => hBA5) hBB5.tok hBA5.tok (fun _ => hown5) hm hBl hAl (by omega) hns HB5.out.size)
            rw [HJ.out] at HJN
            clear hBBr hBAr hBB5 hBA5 hTB5 hTA5 hown5 hg5
            go_wp2_with fail
            refine HJN.out.mono ?_
            rintro e w6 ⟨zo, zc, rfl, hat, hb⟩
            go_wp2_with fail
            go_ret2
            exact ⟨_, by rw [HL.out]; rfl, by rw [HL.out]; exact ⟨zo, _, zc, rfl, hat⟩, HB5.out.trans hb⟩

end Go.Proofs.Ytahpocpagidahaa
