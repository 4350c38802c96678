/-
  Contracts of attrs.Add and Replace. Condition: as the specification's.
-/
import Derived.Test.YtahpocpagidahaaAttP5
import Derived.Test.YtahpocpagidahaaAttR6
import Derived.Shelf.SlicesE.Clone
set_option linter.unusedVariables false
set_option linter.unusedSimpArgs false
set_option linter.unnecessarySimpa false
namespace Go.Proofs.Ytahpocpagidahaa
open Go.RowKit Go.PlainAid

theorem wth_mem {l : List At} {lw : ByteArray} {a : At} (h : a ∈ wthL l lw) : a ∈ nf l := (List.mem_filter.1 h).1
theorem names_sub {B A : List At} {T : List At} (h : ∀ a, a ∈ B ++ A → a ∈ T) : ∀ a ∈ B, a ∈ T := fun a ha => h a (List.mem_append_left _ ha)
theorem sub_asc {l : List At} {T B M A : List Tr} {lw : ByteArray} {hv : Value} (hT : tats T = nf l) (h : Parts T lw B M A hv) : Asc ((tats B).map (·.1)) ∧ Asc ((tats A).map (·.1)) := by
  have e := nf_names_asc hT
  rw [h.all, tats_append, tats_append, List.map_append, List.map_append] at e
  exact ⟨List.Pairwise.sublist (by simp) e, List.Pairwise.sublist (by simp) e⟩
/-- a list put together of its parts is the specification's -/
theorem join_with {l : List At} {T B M A : List Tr} {hv : Value} {name : ByteArray} (hT : tats T = nf l) (h : Parts T (lowS name) B M A hv) (vs : List ByteArray) : joinL (tats B) (tats A) (lowS name) vs = withL l name vs := by
  obtain ⟨hB, hA⟩ := sub_asc hT h
  have hm := parts_mid hT h
  have hnf := nf_NF l
  have hmem : ∀ a, a ∈ tats B ∨ a ∈ tats A → a ∈ nf l := fun a ha => wth_mem (lw := lowS name) (by rw [← hm]; exact List.mem_append.2 ha)
  have hlo : ∀ a ∈ tats B, cmpS a.1 (lowS name) < 0 := fun a ha => by obtain ⟨t, ht, rfl⟩ := List.mem_map.1 ha; exact h.lo t ht
  have hhi : ∀ a ∈ tats A, cmpS (lowS name) a.1 < 0 := fun a ha => by obtain ⟨t, ht, rfl⟩ := List.mem_map.1 ha; exact h.hi t ht
  have hj : ∀ a, a ∈ joinL (tats B) (tats A) (lowS name) vs ↔ (a ∈ tats B ∨ a ∈ tats A) ∨ (vs ≠ [] ∧ a = (lowS name, sortU vs)) := by
    intro a
    unfold joinL
    rw [List.mem_append, List.mem_append]
    by_cases e : vs.length = 0
    · have e' : vs = [] := List.length_eq_zero_iff.1 e
      rw [if_pos e]
      simp [e']
    · have e' : vs ≠ [] := fun k => e (by rw [k]; rfl)
      rw [if_neg e]
      simp only [List.mem_singleton, ne_eq, e', not_false_eq_true, true_and]
      constructor
      · rintro ((k | k) | k)
        · exact .inl (.inl k)
        · exact .inr k
        · exact .inl (.inr k)
      · rintro ((k | k) | k)
        · exact .inl (.inl k)
        · exact .inr k
        · exact .inl (.inr k)
  have hNF : NF (joinL (tats B) (tats A) (lowS name) vs) := by
    refine ⟨?_, fun a ha => ?_, fun a ha => ?_, fun a ha => ?_⟩
    · unfold joinL Asc
      rw [List.map_append, List.map_append]
      refine List.pairwise_append.2 ⟨List.pairwise_append.2 ⟨hB, ?_, ?_⟩, hA, ?_⟩
      · split
        · exact List.Pairwise.nil
        · exact List.pairwise_singleton _ _
      · intro x hx y hy
        obtain ⟨a, ha, rfl⟩ := List.mem_map.1 hx
        obtain ⟨b, hb, rfl⟩ := List.mem_map.1 hy
        split at hb
        · exact absurd hb List.not_mem_nil
        · rw [List.mem_singleton.1 hb]; exact hlo a ha
      · intro x hx y hy
        obtain ⟨b, hb, rfl⟩ := List.mem_map.1 hy
        rcases List.mem_append.1 hx with k | k
        · obtain ⟨a, ha, rfl⟩ := List.mem_map.1 k
          exact cs_trans (hlo a ha) (hhi b hb)
        · obtain ⟨a, ha, rfl⟩ := List.mem_map.1 k
          split at ha
          · exact absurd ha List.not_mem_nil
          · rw [List.mem_singleton.1 ha]; exact hhi b hb
    · rcases (hj a).1 ha with k | ⟨_, rfl⟩
      · exact hnf.low a (hmem a k)
      · exact lowS_low name
    · rcases (hj a).1 ha with k | ⟨_, rfl⟩
      · exact hnf.vasc a (hmem a k)
      · exact sortU_asc vs
    · rcases (hj a).1 ha with k | ⟨e, rfl⟩
      · exact hnf.ne a (hmem a k)
      · exact fun k => e (sortU_nil.1 k)
  refine nf_ext hNF (nf_NF _) fun n v => ?_
  unfold withL
  rw [hs_nf]
  unfold Hs Hl
  constructor
  · rintro ⟨a, ha, e, hv⟩
    rcases (hj a).1 ha with k | ⟨_, rfl⟩
    · refine ⟨a, List.mem_append_left _ (by rw [← hm]; exact List.mem_append.2 k), ?_, hv⟩
      rw [hnf.low a (hmem a k)]; exact e
    · exact ⟨(name, vs), List.mem_append_right _ (List.mem_singleton.2 rfl), e, sortU_mem.1 hv⟩
  · rintro ⟨a, ha, e, hv⟩
    rcases List.mem_append.1 ha with k | k
    · rw [← hm] at k
      have k' := List.mem_append.1 k
      refine ⟨a, (hj a).2 (.inl k'), ?_, hv⟩
      rw [← hnf.low a (hmem a k')]; exact e
    · rw [List.mem_singleton.1 k] at e hv
      exact ⟨(lowS name, sortU vs), (hj _).2 (.inr ⟨List.ne_nil_of_mem hv, rfl⟩), e, sortU_mem.2 hv⟩
theorem parts_own {l : List At} {T B M A : List Tr} {lw : ByteArray} {hv v : Value} {w : World} {base : Nat} (hT : tats T = nf l) (h : Parts T lw B M A hv) (hO : TOwn w base v T) : w.ownsRow base 9 1 hv (vals l lw).length (scells (vals l lw)) := by
  rcases h.mid with ⟨hM, rfl⟩ | ⟨vs, hM⟩
  · obtain ⟨ao, n, cap, e, hs⟩ := parts_vals hT h hO.ok
    cases e
    have e : vals l lw = [] := List.length_eq_zero_iff.1 hs.1
    rw [e]; exact World.ownsRow_nil _ _ _ _
  · have hm : (lw, hv, vs) ∈ T := by rw [h.all, hM]; simp
    have h2 : (lw, vs) ∈ nf l := by rw [← hT]; exact List.mem_map.2 ⟨_, hm, rfl⟩
    have e' : vs = vals l lw := (nf_mem.1 h2).1
    rw [← e']
    exact (hO _ hm).1
theorem parts_beside {T B M A : List Tr} {lw : ByteArray} {hv : Value} {w : World} {base n cap : Nat} {ao bo : Option Addr} {xs : List Value} (h : Parts T lw B M A hv) (hO : TOwn w base (.slice ao n cap) T) (hAp : TApart T) (hown : w.ownsRow base 42 2 (.slice ao n cap) n xs) (hL : Lies ao bo) :
    Beside w base hv ao B ∧ Beside w base hv bo A := by
  have hne : ∀ t, t ∈ B ∨ t ∈ A → t.2.1.ownBlock = none ∨ t.2.1.ownBlock ≠ hv.ownBlock := by
    intro t ht
    rcases h.mid with ⟨hM, rfl⟩ | ⟨vs, hM⟩
    · cases hb : t.2.1.ownBlock with
      | none => exact .inl rfl
      | some g => exact .inr (by simp [Value.ownBlock])
    · have hall := h.all
      rw [hM] at hall
      unfold TApart at hAp
      rw [hall] at hAp
      rcases ht with k | k
      · have := (List.pairwise_append.1 (List.pairwise_append.1 hAp).1).2.2 t k (lw, hv, vs) (List.mem_singleton.2 rfl)
        exact this
      · have := (List.pairwise_append.1 hAp).2.2 (lw, hv, vs) (List.mem_append_right _ (List.mem_singleton.2 rfl)) t k
        exact apart_symm this
  have hrow : ∀ b off, ao = some ⟨b, off, none⟩ → hv.ownBlock ≠ some b := by
    intro b off e k
    rcases h.mid with ⟨hM, rfl⟩ | ⟨vs, hM⟩
    · simp [Value.ownBlock] at k
    · have hm : (lw, hv, vs) ∈ T := by rw [h.all, hM]; simp
      rcases (hO _ hm).2 with j | j
      · rw [k] at j; cases j
      · exact j (by rw [k, e]; rfl)
  have hlt : ∀ b off, ao = some ⟨b, off, none⟩ → b < w.heap.size := fun b off e => (hown.lt b (by rw [e]; rfl)).2
  refine ⟨⟨fun t ht => ⟨(hO t (by rw [h.all]; simp [ht])).1, hne t (.inl ht)⟩, hrow, hlt⟩, fun t ht => ⟨(hO t (by rw [h.all]; simp [ht])).1, hne t (.inr ht)⟩, fun b off e => ?_, fun b off e => ?_⟩
  · obtain ⟨b', o1, o2, e1, e2⟩ := hL _ e
    cases e1
    exact hrow _ _ e2
  · obtain ⟨b', o1, o2, e1, e2⟩ := hL _ e
    cases e1
    exact hlt _ _ e2
theorem Beside.grown {w w' : World} {base : Nat} {v v' : Value} {ao : Option Addr} {T : List Tr} (h : Beside w base v ao T) (hg : w.grownBy w' v.ownBlock) (hl : v'.ownBlock = v.ownBlock ∨ v'.ownBlock = some w.heap.size) : Beside w' base v' ao T := by
  refine ⟨TOwn.grown (v := v) h.own hg hl, fun b off e k => ?_, fun b off e => Nat.lt_of_lt_of_le (h.lt b off e) hg.size⟩
  rcases hl with j | j
  · exact h.row b off e (by rw [← j, k])
  · rw [k] at j
    cases j
    exact Nat.lt_irrefl _ (h.lt _ off e)
theorem Beside.fresh {w w' : World} {base : Nat} {v v' : Value} {ao : Option Addr} {T : List Tr} (h : Beside w base v ao T) (hb : Below w.heap.size w w') (hv : ∀ g, v'.ownBlock = some g → w.heap.size ≤ g) : Beside w' base v' ao T := by
  refine ⟨fun t ht => ⟨own_below (h.own t ht).1 hb, ?_⟩, fun b off e k => ?_, fun b off e => Nat.lt_of_lt_of_le (h.lt b off e) hb.size⟩
  · exact not_block (Bk := w.heap.size) (fun g e => ((h.own t ht).1.lt g e).2) hv
  · have := hv b k
    have := h.lt b off e
    omega
theorem Beside.tok {w : World} {base : Nat} {v : Value} {ao : Option Addr} {T : List Tr} (h : Beside w base v ao T) : TOk w T := fun t ht => hdr_owns (h.own t ht).1

set_option maxRecDepth 100000 in
set_option maxHeartbeats 4000000 in
theorem add_s (ao vo : Option Addr) (n cap vn vc : Nat) (l : List At) (name : ByteArray) (vs : List ByteArray) (w : World) (h : AttrsAt w ao n cap l) (hv : StrsAt w vo vn vc vs) (hF : Edit l vs) (hns : name.size ≤ 1000000) :
    Calls Try.prog 29 #[.slice ao n cap, .string name, .slice vo vn vc] w fun e w' => ∃ v, e = .returned (.tuple #[v, .int .i64 (addR l name vs).2]) ∧ AttsR w' v (addR l name vs).1 ∧ Below w.heap.size w w' := by
  have hvl : vs.length = vn := hv.1
  have HV := Lib.hid hv
  have HR := Lib.hid (sorted_s ao n cap l w h hF.few)
  have HF := Lib.hid hF
  clear h hv hF
  cases hnm : nameB name with
  | false =>
    have HL := Lib.hid (show addR l name vs = ([], 5) from if_pos hnm)
    go_enter Try.func29, Try.ntmps29
    go_wp2_with (go_at_call 37; refine (name_s name _ (by omega)).mono ?_; rintro e w' ⟨rfl, rfl⟩; rw [hnm])
    go_ret2
    exact ⟨_, by rw [HL.out]; rfl, by rw [HL.out]; exact atts_nil _, Below.refl _ _⟩
  | true =>
    by_cases hz : vn = 0
    · have HL := Lib.hid (show addR l name vs = ([], 6) by unfold addR; rw [if_neg (by rw [hnm]; simp), if_pos (by omega)])
      have q0 : ((vn : Int) == 0) = true := by simpa using hz
      clear hz hvl
      go_enter Try.func29, Try.ntmps29
      go_wp2_with (go_at_call 37; refine (name_s name _ (by omega)).mono ?_; rintro e w' ⟨rfl, rfl⟩; rw [hnm])
      go_ret2
      exact ⟨_, by rw [HL.out]; rfl, by rw [HL.out]; exact atts_nil _, Below.refl _ _⟩
    · have q0 : ((vn : Int) == 0) = false := by simpa using hz
      have hvn : vn ≤ 10000 := by rw [← hvl]; exact HF.out.vlen
      have hlen := Nat.le_trans (nf_len l) HF.out.few.len
      have HL0 := Lib.hid (show addR l name vs = if chkV vs (vals l (lowS name)) ≠ 0 then ([], chkV vs (vals l (lowS name))) else limR (withL l name (vals l (lowS name) ++ vs)) (vals l (lowS name) ++ vs).length by unfold addR; rw [if_neg (by rw [hnm]; simp), if_neg (by omega)])
      go_enter Try.func29, Try.ntmps29
      go_wp2_with (go_at_call 37; refine (name_s name _ (by omega)).mono ?_; rintro e w' ⟨rfl, rfl⟩; rw [hnm])
      refine HR.out.mono ?_
      rintro e w1 ⟨v, T, rfl, hT, hTO, hTA, hown, hb⟩
      obtain ⟨hTl, xo, xc, rfl, hat, _, hzz, hp⟩ := ts_owns hown
      have HRD := Lib.hid (around_s xo T.length xc T name w1 hat (nf_names_asc hT) (by rw [← tats_len, hT]; exact hlen) hzz hp hns)
      have HB1 := Lib.hid hb
      have HT := Lib.hid hT
      have HTO := Lib.hid hTO
      have HTA := Lib.hid hTA
      have HOW := Lib.hid hown
      have hTl2 : T.length ≤ 1000 := by rw [← tats_len, hT]; exact hlen
      have HP0 := Lib.hid hp
      have hxz : xo = none → xc = 0 := hzz
      clear HR hat hTO hTA hb hown hT hlen hzz hp hTl
      go_wp2_with fail
      refine HRD.out.mono ?_
      rintro e w2 ⟨B, M, A, hv, bo, c, rfl, hP, hTB, hTA2, hL, hb⟩
      have HPA := Lib.hid hP
      have hOwn := own_below (parts_own HT.out hP HTO.out) hb
      obtain ⟨hBB, hBA⟩ := parts_beside hP HTO.out HTA.out HOW.out hL
      have HBB := Lib.hid (hBB.below hb)
      have HBA := Lib.hid (hBA.below hb)
      have HTB := Lib.hid hTB
      have HTA2 := Lib.hid hTA2
      have HB2 := Lib.hid (HB1.out.trans (hb.mono HB1.out.size))
      have hBl : B.length ≤ 1000 := by have := congrArg List.length hP.all; rw [List.length_append, List.length_append] at this; omega
      have hAl : A.length ≤ 1000 := by have := congrArg List.length hP.all; rw [List.length_append, List.length_append] at this; omega
      have hzB : xo = none → B.length = 0 := fun e => by
        rcases Nat.eq_zero_or_pos B.length with k | k
        · exact k
        · obtain ⟨_, _, e2, _⟩ := hTB.2.2.2 k
          rw [e] at e2; cases e2
      have HJ := Lib.hid (join_with (name := name) HT.out hP)
      obtain ⟨old, hold⟩ : ∃ x, vals l (lowS name) = x := ⟨_, rfl⟩
      have hol : old.length ≤ 40000 := by rw [← hold]; exact Nat.le_trans (vals_len _ _) HF.out.tot
      have HOS := Lib.hid (show SmallS old by rw [← hold]; exact vals_small HF.out.small _)
      rw [hold] at hOwn HL0
      obtain ⟨yn, hyn⟩ : ∃ x, old.length = x := ⟨_, rfl⟩
      rw [hyn] at hOwn
      obtain ⟨yo, yc, rfl, hy⟩ := strs_own hOwn hyn
      have HY := Lib.hid hy
      have HC := Lib.hid (checkNew_s yo vo yn vn yc vc old vs w2 hy (HV.out.below HB2.out) (by omega) (by omega) HOS.out HF.out.vsmall)
      obtain ⟨cc, hc⟩ : ∃ x, chkV vs old = x := ⟨_, rfl⟩
      rw [hc] at HC HL0
      clear hP hL hb hBB hBA hTB hTA2 hy hold hc HRD HTO HTA HOW HPA
      go_wp2_with fail
      refine HC.out.mono ?_
      rintro e w3 ⟨rfl, hb⟩
      have HB3 := Lib.hid (HB2.out.trans (hb.mono HB2.out.size))
      have HBB3 := Lib.hid (HBB.out.below hb)
      have HBA3 := Lib.hid (HBA.out.below hb)
      have HTB3 := Lib.hid (HTB.out.below hb)
      have HTA3 := Lib.hid (HTA2.out.below hb)
      have hOwn3 := own_below hOwn hb
      have HV3 := Lib.hid (HV.out.below HB3.out)
      clear hb HC HTB HTA2 HBB HBA hOwn HY
      by_cases h0 : cc = 0
      · subst h0
        have HL := Lib.hid (show addR l name vs = limR (withL l name (old ++ vs)) (old ++ vs).length by rw [HL0.out, if_neg (by simp)])
        clear HL0
        have hsz3 := HB3.out.size
        go_wp2_with (at_builtin; go_must (refine push_strs w3 hOwn3 (.tmp 34) (.tmp 35) HV3.out ?_ ?_ ?_ ?_ ?_ ?_ ?_; exact rfl; exact rfl; exact rfl; exact rfl; omega; exact hsz3; intro v5 w5 hown5 hg5 hl5))
        have he : (old ++ vs).length = yn + vn := by rw [List.length_append]; omega
        have hown6 : w5.ownsRow w.heap.size 9 1 v5 (yn + vn) (scells (old ++ vs)) := by
          have e2 : scells (old ++ vs) = scells old ++ scells vs := by unfold scells; rw [List.map_append]
          rw [e2]; exact hown5
        have hBB5 := HBB3.out.grown hg5 hl5
        have hBA5 := HBA3.out.grown hg5 hl5
        have hTB5 := HBB3.out.ts HTB3.out hg5
        have hTA5 := HBA3.out.ts HTA3.out hg5
        have HB5 := Lib.hid (HB3.out.grown hg5 hsz3 (fun q hq => (hOwn3.lt q hq).1))
        obtain ⟨zo, zc, rfl, _⟩ := strs_own hown6 he
        have HW := Lib.hid (limited_s xo zo bo (yn + vn) zc c w.heap.size B A name (old ++ vs) w5 hTB5 hzB HP0.out hTA5 (fun _ => hBB5) (fun _ => hBA5) hBB5.tok hBA5.tok (fun _ => hown6) he hBl hAl (by omega) hns HB5.out.size)
        rw [HJ.out] at HW
        clear hown6 hown5 hg5 hl5 hBB5 hBA5 hTB5 hTA5 hOwn3
        go_wp2_with fail
        refine HW.out.mono ?_
        rintro e w6 ⟨v6, rfl, hR, hb⟩
        go_wp2_with fail
        go_ret2
        exact ⟨_, by rw [HL.out, he]; rfl, by rw [HL.out]; exact hR, HB5.out.trans hb⟩
      · have HL := Lib.hid (show addR l name vs = ([], cc) by rw [HL0.out, if_pos h0])
        have q1 : (cc != 0) = true := by simpa using h0
        go_wp2_with fail
        go_ret2
        exact ⟨_, by rw [HL.out]; rfl, by rw [HL.out]; exact atts_nil _, HB3.out⟩

set_option maxRecDepth 100000 in
set_option maxHeartbeats 4000000 in
theorem clone_s (vo : Option Addr) (vn vc : Nat) (vs : List ByteArray) (w : World) (h : StrsAt w vo vn vc vs) (hn : vn ≤ 1000000) :
    Calls Try.prog 61 #[.slice vo vn vc] w fun e w' => ∃ u, e = .returned u ∧ w'.ownsRow w.heap.size 9 1 u vn (scells vs) ∧ Below w.heap.size w w' := by
  have HV := Lib.hid h
  cases vo with
  | none =>
    have hv0 : vn = 0 := by
      rcases Nat.eq_zero_or_pos vn with k | k
      · exact k
      · obtain ⟨_, _, e, _⟩ := h.2.2.2 k; cases e
    subst hv0
    have e0 : vs = [] := List.length_eq_zero_iff.1 h.1
    subst e0
    have q22 := fun w => Lib.run_eql_slice_nil (P := Try.prog) w 29 _ none 0 vc 0 0 Try.underlying29
    clear h
    go_enter Try.func61, Try.ntmps61
    go_wp2_with fail
    go_ret
    exact ⟨_, rfl, World.ownsRow_nil _ _ _ _, Below.refl _ _⟩
  | some ad =>
    have q22 := fun w => Lib.run_eql_slice_nil (P := Try.prog) w 29 _ (some ad) vn vc 0 0 Try.underlying29
    have hown0 : (w.alloc (.cells #[] 9)).ownsRow w.heap.size 9 1 (.slice (some ⟨w.heap.size, 0, none⟩) 0 0) 0 [] := World.ownsRow_made w #[] 0 (Nat.le_refl _) (by unfold maxLen; omega) rfl
    have HB0 := Lib.hid ((Below.refl w.heap.size w).alloc (Nat.le_refl _) (.cells #[] 9))
    have HV1 := Lib.hid (h.below HB0.out)
    have hsz := HB0.out.size
    clear h
    go_enter Try.func61, Try.ntmps61
    go_wp2_with (at_builtin; go_must (refine push_strs (w.alloc (.cells #[] 9)) hown0 (.tmp 5) (.tmp 6) HV1.out ?_ ?_ ?_ ?_ ?_ ?_ ?_; exact rfl; exact rfl; exact rfl; exact rfl; omega; exact hsz; intro v5 w5 hown5 hg5 hl5))
    go_ret
    have hb5 := HB0.out.grown hg5 hsz (fun q hq => (hown0.lt q hq).1)
    exact ⟨_, rfl, by rw [Nat.zero_add] at hown5; exact hown5, hb5⟩

set_option maxRecDepth 100000 in
set_option maxHeartbeats 4000000 in
theorem rep_s (ao vo : Option Addr) (n cap vn vc : Nat) (l : List At) (name : ByteArray) (vs : List ByteArray) (w : World) (h : AttrsAt w ao n cap l) (hv : StrsAt w vo vn vc vs) (hF : Edit l vs) (hns : name.size ≤ 1000000) :
    Calls Try.prog 33 #[.slice ao n cap, .string name, .slice vo vn vc] w fun e w' => ∃ v, e = .returned (.tuple #[v, .int .i64 (repR l name vs).2]) ∧ AttsR w' v (repR l name vs).1 ∧ Below w.heap.size w w' := by
  have hvl : vs.length = vn := hv.1
  have hvn : vn ≤ 10000 := by rw [← hvl]; exact hF.vlen
  have HV := Lib.hid hv
  have HA := Lib.hid h
  have HC := Lib.hid (checkNew_s none vo 0 vn 0 vc [] vs w (strs_nil w) hv (by omega) (by omega) (fun v hv => (List.not_mem_nil hv).elim) hF.vsmall)
  have HF := Lib.hid hF
  clear h hv hF
  cases hnm : nameB name with
  | false =>
    have HL := Lib.hid (show repR l name vs = ([], 5) from if_pos hnm)
    go_enter Try.func33, Try.ntmps33
    go_wp2_with (go_at_call 37; refine (name_s name _ (by omega)).mono ?_; rintro e w' ⟨rfl, rfl⟩; rw [hnm])
    go_ret2
    exact ⟨_, by rw [HL.out]; rfl, by rw [HL.out]; exact atts_nil _, Below.refl _ _⟩
  | true =>
    obtain ⟨cc, hc⟩ : ∃ x, chkV vs [] = x := ⟨_, rfl⟩
    rw [hc] at HC
    by_cases h0 : cc = 0
    · subst h0
      have HL := Lib.hid (show repR l name vs = limR (withL l name vs) vs.length by unfold repR; rw [if_neg (by rw [hnm]; simp), if_neg (by rw [hc]; simp)])
      have hlen := Nat.le_trans (nf_len l) HF.out.few.len
      clear hc
      go_enter Try.func33, Try.ntmps33
      go_wp2_with (go_at_call 37; refine (name_s name _ (by omega)).mono ?_; rintro e w' ⟨rfl, rfl⟩; rw [hnm])
      refine HC.out.mono ?_
      rintro e w0 ⟨rfl, hb⟩
      have HR := Lib.hid (sorted_s ao n cap l w0 (HA.out.below hb) HF.out.few)
      have HB0 := Lib.hid hb
      clear hb HC
      go_wp2_with fail
      refine HR.out.mono ?_
      rintro e w1 ⟨v, T, rfl, hT, hTO, hTA, hown, hb⟩
      obtain ⟨hTl, xo, xc, rfl, hat, _, hzz, hp⟩ := ts_owns hown
      have HRD := Lib.hid (around_s xo T.length xc T name w1 hat (nf_names_asc hT) (by rw [← tats_len, hT]; exact hlen) hzz hp hns)
      have HB1 := Lib.hid (HB0.out.trans (hb.mono HB0.out.size))
      have hsz0 := HB0.out.size
      have HT := Lib.hid hT
      have HTO := Lib.hid (hTO.mono hsz0)
      have HTA := Lib.hid hTA
      have HOW := Lib.hid (hown.mono hsz0)
      have hTl2 : T.length ≤ 1000 := by rw [← tats_len, hT]; exact hlen
      have HP0 := Lib.hid hp
      clear HR hat hTO hTA hb hown hT hlen hzz hp hTl
      go_wp2_with fail
      refine HRD.out.mono ?_
      rintro e w2 ⟨B, M, A, hv, bo, c, rfl, hP, hTB, hTA2, hL, hb⟩
      obtain ⟨hBB, hBA⟩ := parts_beside hP HTO.out HTA.out HOW.out hL
      have HBB := Lib.hid (hBB.below hb)
      have HBA := Lib.hid (hBA.below hb)
      have HTB := Lib.hid hTB
      have HTA2 := Lib.hid hTA2
      have HB2 := Lib.hid (HB1.out.trans (hb.mono HB1.out.size))
      have hBl : B.length ≤ 1000 := by have := congrArg List.length hP.all; rw [List.length_append, List.length_append] at this; omega
      have hAl : A.length ≤ 1000 := by have := congrArg List.length hP.all; rw [List.length_append, List.length_append] at this; omega
      have hzB : xo = none → B.length = 0 := fun e => by
        rcases Nat.eq_zero_or_pos B.length with k | k
        · exact k
        · obtain ⟨_, _, e2, _⟩ := hTB.2.2.2 k
          rw [e] at e2; cases e2
      have HJ := Lib.hid (join_with (name := name) HT.out hP)
      have HCL := Lib.hid (clone_s vo vn vc vs w2 (HV.out.below HB2.out) (by omega))
      clear hP hL hb hBB hBA hTB hTA2 HRD HTO HTA HOW
      go_wp2_with fail
      refine HCL.out.mono ?_
      rintro e w3 ⟨u, rfl, hown, hb⟩
      have hsz2 := HB2.out.size
      have hBB3 := HBB.out.fresh (v' := u) hb (fun g e => (hown.lt g e).1)
      have hBA3 := HBA.out.fresh (v' := u) hb (fun g e => (hown.lt g e).1)
      have HB3 := Lib.hid (HB2.out.trans (hb.mono HB2.out.size))
      obtain ⟨zo, zc, rfl, _⟩ := strs_own hown hvl
      have HW := Lib.hid (limited_s xo zo bo vn zc c w.heap.size B A name vs w3 (HTB.out.below hb) hzB HP0.out (HTA2.out.below hb) (fun _ => hBB3) (fun _ => hBA3) hBB3.tok hBA3.tok (fun _ => hown.mono hsz2) hvl hBl hAl (by omega) hns HB3.out.size)
      rw [HJ.out] at HW
      clear hown hBB3 hBA3 hb HCL
      go_wp2_with fail
      refine HW.out.mono ?_
      rintro e w6 ⟨v6, rfl, hR, hb⟩
      go_wp2_with fail
      go_ret2
      exact ⟨_, by rw [HL.out, hvl]; rfl, by rw [HL.out]; exact hR, HB3.out.trans hb⟩
    · have HL := Lib.hid (show repR l name vs = ([], cc) by unfold repR; rw [if_neg (by rw [hnm]; simp), hc, if_pos h0])
      have q1 : (cc != 0) = true := by simpa using h0
      clear hc
      go_enter Try.func33, Try.ntmps33
      go_wp2_with (go_at_call 37; refine (name_s name _ (by omega)).mono ?_; rintro e w' ⟨rfl, rfl⟩; rw [hnm])
      refine HC.out.mono ?_
      rintro e w1 ⟨rfl, hb⟩
      go_wp2_with fail
      go_ret2
      exact ⟨_, by rw [HL.out]; rfl, by rw [HL.out]; exact atts_nil _, hb⟩

end Go.Proofs.Ytahpocpagidahaa
