/-
  Contracts of the specification's checkValues and with. Condition: as Sorted's.
-/
import Derived.Test.YtahpocpagidahaaAttR4
import Derived.Test.YtahpocpagidahaaAttChk
set_option linter.unusedVariables false
set_option linter.unusedSimpArgs false
set_option linter.unnecessarySimpa false
namespace Go.Proofs.Ytahpocpagidahaa
open Go.RowKit Go.PlainAid

theorem sum_none : ∀ l : List Nat, (∀ x ∈ l, x = 0) → l.sum = 0
  | [], _ => rfl
  | x :: l, h => by
    rw [List.sum_cons, h x (List.mem_cons_self ..), sum_none l fun y hy => h y (List.mem_cons_of_mem _ hy)]
theorem sum_hit (m : Nat) (n : ByteArray) : ∀ ns : List ByteArray, ns.Nodup → (ns.map fun k => if n = k then m else 0).sum ≤ m
  | [], _ => Nat.zero_le _
  | k :: ns, h => by
    have h' := List.nodup_cons.1 h
    rw [List.map_cons, List.sum_cons]
    by_cases e : n = k
    · rw [if_pos e]
      have hz : (ns.map fun k => if n = k then m else 0).sum = 0 := by
        refine sum_none _ fun x hx => ?_
        obtain ⟨j, hj, rfl⟩ := List.mem_map.1 hx
        rw [if_neg fun e2 => h'.1 (by rw [← e, e2]; exact hj)]
      omega
    · rw [if_neg e]
      have := sum_hit m n ns h'.2
      omega
theorem sum_le {α : Type} (f g : α → Nat) : ∀ l : List α, (∀ x ∈ l, f x ≤ g x) → (l.map f).sum ≤ (l.map g).sum
  | [], _ => Nat.le_refl _
  | x :: l, h => by
    rw [List.map_cons, List.map_cons, List.sum_cons, List.sum_cons]
    have h1 := h x (List.mem_cons_self ..)
    have h2 := sum_le f g l fun y hy => h y (List.mem_cons_of_mem _ hy)
    omega
theorem sum_add {α : Type} (f g : α → Nat) : ∀ l : List α, (l.map fun x => f x + g x).sum = (l.map f).sum + (l.map g).sum
  | [] => rfl
  | x :: l => by
    rw [List.map_cons, List.map_cons, List.map_cons, List.sum_cons, List.sum_cons, List.sum_cons, sum_add f g l]; omega
theorem sum_allV : ∀ (l : List At) (ns : List ByteArray), ns.Nodup → (ns.map fun n => (allV l n).length).sum ≤ sumV l
  | [], ns, _ => by
    have : (ns.map fun n => (allV [] n).length).sum = 0 := by
      refine sum_none _ fun x hx => ?_
      obtain ⟨j, hj, rfl⟩ := List.mem_map.1 hx
      rfl
    rw [this]; exact Nat.zero_le _
  | a :: l, ns, h => by
    have e : (fun n => (allV (a :: l) n).length) = fun n => (if lowS a.1 = n then a.2.length else 0) + (allV l n).length := by
      funext n
      rw [allV_cons, List.length_append]
      split <;> rfl
    rw [e, sum_add, sumV_cons]
    have h1 := sum_hit a.2.length (lowS a.1) ns h
    have h2 := sum_allV l ns h
    omega
theorem sumV_nf (l : List At) : sumV (nf l) ≤ sumV l := by
  unfold sumV nf
  rw [List.map_map]
  refine Nat.le_trans (sum_le _ (fun n => (allV l n).length) _ fun n _ => ?_) (sum_allV l _ (asc_nodup (names_asc l)))
  exact sortU_len _
theorem sumV_append (l k : List At) : sumV (l ++ k) = sumV l + sumV k := by unfold sumV; rw [List.map_append, List.sum_append]
theorem sumV_filter (p : At → Bool) : ∀ l : List At, sumV (l.filter p) ≤ sumV l
  | [] => Nat.le_refl _
  | a :: l => by
    have := sumV_filter p l
    by_cases h : p a = true
    · rw [List.filter_cons_of_pos h, sumV_cons, sumV_cons]; omega
    · rw [List.filter_cons_of_neg h, sumV_cons]; omega
theorem few_nf {l : List At} (h : Few l) : Few (nf l) := ⟨nf_small h.small, Nat.le_trans (sumV_nf l) h.vals, Nat.le_trans (nf_len l) h.len⟩
theorem few_wth {l : List At} (h : Few l) (lw : ByteArray) : Few (wthL l lw) :=
  ⟨fun a ha => (few_nf h).small a (List.mem_filter.1 ha).1, Nat.le_trans (sumV_filter _ _) (few_nf h).vals, Nat.le_trans (List.length_filter_le _ _) (few_nf h).len⟩
/-- there is room for the values vs under one more name -/
structure Room (l : List At) (vs : List ByteArray) : Prop where
  small : SmallA l
  vals : sumV l + vs.length ≤ 100000
  len : l.length ≤ 999
  vsmall : SmallS vs
theorem Room.few {l : List At} {vs : List ByteArray} (h : Room l vs) : Few l := ⟨h.small, by have := h.vals; omega, by have := h.len; omega⟩
theorem few_with {l : List At} {vs : List ByteArray} (h : Room l vs) (lw : ByteArray) {name : ByteArray} (hn : name.size ≤ 1000000) : Few (wthL l lw ++ [(name, vs)]) := by
  have h1 := few_wth h.few lw
  refine ⟨fun a ha => ?_, ?_, ?_⟩
  · rcases List.mem_append.1 ha with k | k
    · exact h1.small a k
    · rw [List.mem_singleton.1 k]; exact ⟨hn, h.vsmall⟩
  · rw [sumV_append]
    have h2 := sumV_filter (fun a => decide (a.1 ≠ lw)) (nf l)
    have h3 := sumV_nf l
    have h4 := h.vals
    have h5 : sumV [(name, vs)] = vs.length := rfl
    unfold wthL
    omega
  · rw [List.length_append, List.length_singleton]
    have h2 := List.length_filter_le (fun a : At => decide (a.1 ≠ lw)) (nf l)
    have h3 := nf_len l
    have h4 := h.len
    unfold wthL
    omega
def withL (l : List At) (name : ByteArray) (vs : List ByteArray) : List At := nf (wthL l (lowS name) ++ [(name, vs)])
/-- the list, or an error where it or the values are too many -/
def limR (l : List At) (m : Nat) : List At × Int := if 32 < l.length ∨ 16 < m then ([], 3) else (l, 0)

set_option maxRecDepth 100000 in
set_option maxHeartbeats 4000000 in
theorem rwith_s (ao vo : Option Addr) (n cap vn vc : Nat) (l : List At) (name : ByteArray) (vs : List ByteArray) (w : World) (h : AttrsAt w ao n cap l) (hv : StrsAt w vo vn vc vs) (hF : Room l vs) (hns : name.size ≤ 1000000) :
    Calls Try.prog 55 #[.slice ao n cap, .string name, .slice vo vn vc] w fun e w' => ∃ v, e = .returned (.tuple #[v, .int .i64 (limR (withL l name vs) vs.length).2]) ∧ AttsR w' v (limR (withL l name vs) vs.length).1 ∧ Below w.heap.size w w' := by
  have HR := Lib.hid (rwithout_s ao n cap l name w h hF.few hns)
  have HFW := Lib.hid (few_with hF (lowS name) hns)
  have HV := Lib.hid hv
  have hvl : vs.length = vn := hv.1
  clear h hF hv
  go_enter Try.func55, Try.ntmps55
  go_wp2_with fail
  refine HR.out.mono ?_
  rintro e w1 ⟨v, rfl, ⟨U, hU, hUO, hown⟩, hb⟩
  have HB := Lib.hid hb
  have HHd : Hid (Hdr w1 (.slice vo vn vc) vs) := Lib.hid ⟨vo, vn, vc, rfl, HV.out.below hb⟩
  have HUO := Lib.hid hUO
  have HU := Lib.hid hU
  have hul : U.length ≤ 1000 := by have h5 := HFW.out.len; rw [List.length_append, ← hU, tats_len] at h5; omega
  have hsz := hb.size
  clear HR hb hUO hU
  go_wp2_with (at_builtin; go_must (refine app_attrs (w1.alloc (.cells #[.string name, .slice vo vn vc] 42)) (hown.alloc _) (.tmp 11) (.tmp 15) _ 1 1 [(name, .slice vo vn vc, vs)] ?_ ?_ ?_ ?_ (ts_new1 w1 (name, .slice vo vn vc, vs)) ?_ ?_ ?_ ?_; exact rfl; exact rfl; exact rfl; exact rfl; exact (fun t ht => by rw [List.mem_singleton.1 ht]; exact HHd.out.below ((Below.refl _ w1).alloc (Nat.le_refl _) _)); omega; (simp; omega); intro v7 w7 hown7 hg7 hl7))
  have HTO7 := ((HUO.out.below ((Below.refl _ w1).alloc (Nat.le_refl _) _)).grown hg7 hl7)
  have hb7 : Below w.heap.size w w7 := (HB.out.alloc hsz _).grown hg7 (by simp; omega) (fun q hq => (hown.lt q hq).1)
  have hHd7 : Hdr w7 (.slice vo vn vc) vs := ⟨vo, vn, vc, rfl, HV.out.below hb7⟩
  have hown8 : w7.ownsRow w.heap.size 42 2 v7 (U.length + 1) (tcells (U ++ [(name, .slice vo vn vc, vs)])) := by rw [tcells_append]; exact hown7
  obtain ⟨xo, xn, xc, rfl, hx⟩ := atts_own hown8 (HTO7.ok.app fun t ht => by rw [List.mem_singleton.1 ht]; exact hHd7)
  have e7 : tats (U ++ [(name, .slice vo vn vc, vs)]) = wthL l (lowS name) ++ [(name, vs)] := by rw [tats_append, HU.out]; rfl
  rw [e7] at hx
  have HS := Lib.hid (rsorted_s xo xn xc _ w7 hx HFW.out.small HFW.out.vals (by rw [← hx.1]; exact HFW.out.len))
  have HB7 := Lib.hid hb7
  clear hx e7 hown8 hHd7 hb7 HTO7 hown7 hown hg7 hl7
  go_wp2_with fail
  refine HS.out.mono ?_
  rintro e w8 ⟨v8, T, rfl, hT, hTO, hown, hb⟩
  have HAR := Lib.hid (atts_own hown hTO.ok)
  have HB8 := Lib.hid (HB7.out.trans (hb.mono HB7.out.size))
  have HTL := Lib.hid (show (withL l name vs).length = T.length by unfold withL; rw [← hT, tats_len])
  rw [hT] at HAR
  obtain ⟨_, yo, yc, rfl, _, _⟩ := ts_owns hown
  clear hown hTO hb HS hT
  by_cases h1 : 32 < T.length
  · have d1 : decide ((32 : Int) < (T.length : Int)) = true := decide_eq_true (by omega)
    have HL := Lib.hid (show limR (withL l name vs) vs.length = ([], 3) from if_pos (.inl (by rw [HTL.out]; exact h1)))
    go_wp2_with fail
    go_ret2
    exact ⟨_, by rw [HL.out]; rfl, by rw [HL.out]; exact atts_nil _, HB8.out⟩
  · have d1 : decide ((32 : Int) < (T.length : Int)) = false := decide_eq_false (by omega)
    by_cases h2 : 16 < vn
    · have d2 : decide ((16 : Int) < (vn : Int)) = true := decide_eq_true (by omega)
      have HL := Lib.hid (show limR (withL l name vs) vs.length = ([], 3) from if_pos (.inr (by rw [hvl]; exact h2)))
      go_wp2_with fail
      go_ret2
      exact ⟨_, by rw [HL.out]; rfl, by rw [HL.out]; exact atts_nil _, HB8.out⟩
    · have d2 : decide ((16 : Int) < (vn : Int)) = false := decide_eq_false (by omega)
      have HL := Lib.hid (show limR (withL l name vs) vs.length = (withL l name vs, 0) from if_neg (by rw [HTL.out, hvl]; omega))
      go_wp2_with fail
      go_ret2
      exact ⟨_, by rw [HL.out]; rfl, by rw [HL.out]; exact HAR.out, HB8.out⟩

set_option maxRecDepth 100000 in
set_option maxHeartbeats 4000000 in
theorem rcheckV_s (ao bo : Option Addr) (n m cap dap : Nat) (vs old : List ByteArray) (w : World) (h : StrsAt w ao n cap vs) (k : StrsAt w bo m dap old) (hS : SmallS vs) :
    Calls Try.prog 41 #[.slice ao n cap, .slice bo m dap] w fun e w' => e = .returned (.int .i64 (chkV vs old)) ∧ Below w.heap.size w w' := by
  have HVS := Lib.hid h
  have HOL := Lib.hid k
  obtain ⟨h1, h2, h3, h4⟩ := h
  subst h1
  unfold maxLen at h3
  have H4 := Lib.hid h4; clear h4
  have HS := Lib.hid hS; clear hS k
  go_enter Try.func41, Try.ntmps41
  go_wp2
  go_loopw [5] (fun i wr => ∃ j : Nat, j ≤ vs.length ∧ i = .int .i64 j ∧ Hid (∀ q, q < j → errV vs old q = 0) ∧ Hid (Below w.heap.size w wr)) (fun i _ => vs.length - (intOf i).toNat)
  case atStart => exact ⟨0, Nat.zero_le _, rfl, Lib.hid (fun q hq => absurd hq (Nat.not_lt_zero _)), Lib.hid (Below.refl _ _)⟩
  case round =>
    obtain ⟨j, hj, rfl, HA, HB⟩ := hrel
    by_cases hlt : j < vs.length
    · obtain ⟨b, off, rfl, hs⟩ := H4.out (by omega)
      have hcell := (hs.below HB.out hs.1).2 j hlt
      clear hs
      have HE := Lib.hid (show errV vs old j = if cleanB (partAt vs j) = false then 4 else if memB old (partAt vs j) = true ∨ memB (vs.take j) (partAt vs j) = true then 7 else 0 from rfl)
      obtain ⟨p, hp⟩ : ∃ x, partAt vs j = x := ⟨_, rfl⟩
      have hps : p.size ≤ 1000000 := by rw [← hp]; exact HS.out _ (part_mem vs j hlt)
      rw [hp] at hcell HE
      clear hp
      have d0 : (0 : Int) ≤ (j : Int) := by omega
      have d1 : (j : Int) < (vs.length : Int) := by omega
      have d2 : (j : Int) ≤ (cap : Int) := by omega
      have HVd : Hid (StrsAt wr.drew (some ⟨b, off, none⟩) vs.length cap vs) := Lib.hid ((HVS.out.below HB.out).below (Below.refl _ wr).drew)
      have HCd : Hid (StrsAt wr.drew (some ⟨b, off, none⟩) j cap (vs.take j)) := Lib.hid (HVd.out.cut j hj)
      have HOd : Hid (StrsAt wr.drew bo m dap old) := Lib.hid ((HOL.out.below HB.out).below (Below.refl _ wr).drew)
      obtain ⟨cl, hcl⟩ : ∃ x, cleanB p = x := ⟨_, rfl⟩
      obtain ⟨m1, hm1⟩ : ∃ x, memB old p = x := ⟨_, rfl⟩
      obtain ⟨m2, hm2⟩ : ∃ x, memB (vs.take j) p = x := ⟨_, rfl⟩
      rw [hcl, hm1, hm2] at HE
      have HCL := Lib.hid hcl
      have HM1 := Lib.hid hm1
      have HM2 := Lib.hid hm2
      clear hcl hm1 hm2
      have HF := Lib.hid (fun (e : errV vs old j ≠ 0) => firstE_hit (f := errV vs old) HA.out e hlt)
      cases cl with
      | false =>
        have HR := Lib.hid (show chkV vs old = 4 by rw [if_pos rfl] at HE; unfold chkV; rw [HF.out (by rw [HE.out]; decide), HE.out])
        go_wp2_with (go_at_call 67; refine (rClean_s p _ (by omega)).mono ?_; rintro e w' ⟨rfl, rfl⟩; rw [HCL.out])
        go_ret
        exact ⟨by rw [HR.out]; rfl, HB.out⟩
      | true =>
        rw [if_neg (by simp)] at HE
        cases m1 with
        | true =>
          have HR := Lib.hid (show chkV vs old = 7 by rw [if_pos (.inl rfl)] at HE; unfold chkV; rw [HF.out (by rw [HE.out]; decide), HE.out])
          go_wp2_with (go_at_call 67; refine (rClean_s p _ (by omega)).mono ?_; rintro e w' ⟨rfl, rfl⟩; rw [HCL.out])
          refine wp_region_held_drew (S := fun W => W.cell? ⟨b, off + j, none⟩ = some (.string p)) (by kernel_rfl) (hcell) (fun hS => ?_)
          refine wpAnyH_take (i := 0) (oi := { dst := some 18, op := _, type := _, pos := _, after := _, guard := _ }) (v := ?_) rfl (by kernel_rfl) (by kernel_rfl) (by kernel_rfl) (fun _ _ _ h => h) (Or.inl ⟨by rfl, ?_⟩) (by assumption) ?_
          rotate_left
          · intro w hSw
            try dsimp only at hSw
            go_simp
            try with_reducible rfl
          try simp only [Act.put, List.setIfInBounds_toArray, List.set_cons_zero, List.set_cons_succ]
          refine wpAnyH_take (i := 1) (oi := { dst := some 19, op := _, type := _, pos := _, after := _, guard := _ }) (v := ?_) rfl (by kernel_rfl) (by kernel_rfl) (by kernel_rfl) (fun _ _ _ h => h) (Or.inl ⟨by rfl, ?_⟩) (by assumption) ?_
          rotate_left
          · intro w hSw
            try dsimp only at hSw
            go_simp
            try with_reducible rfl
          try simp only [Act.put, List.setIfInBounds_toArray, List.set_cons_zero, List.set_cons_succ]
          refine wpAnyH_take (i := 2) (oi := { dst := some 20, op := _, type := _, pos := _, after := _, guard := _ }) (v := ?_) rfl (by kernel_rfl) (by kernel_rfl) (by kernel_rfl) (fun _ _ _ h => h) (Or.inl ⟨by rfl, ?_⟩) (by assumption) ?_
          rotate_left
          · intro w hSw
            try dsimp only at hSw
            go_simp
            try with_reducible rfl
          try simp only [Act.put, List.setIfInBounds_toArray, List.set_cons_zero, List.set_cons_succ]
          refine wpAnyH_take (i := 3) (oi := { dst := some 21, op := _, type := _, pos := _, after := _, guard := _ }) (v := ?_) rfl (by kernel_rfl) (by kernel_rfl) (by kernel_rfl) (fun _ _ _ h => h) (Or.inl ⟨by rfl, ?_⟩) (by assumption) ?_
          rotate_left
          · intro w hSw
            try dsimp only at hSw
            go_simp
            try with_reducible rfl
          try simp only [Act.put, List.setIfInBounds_toArray, List.set_cons_zero, List.set_cons_succ]
          refine wpAnyH_take (i := 4) (oi := { dst := some 22, op := _, type := _, pos := _, after := _, guard := _ }) (v := ?_) rfl (by kernel_rfl) (by kernel_rfl) (by kernel_rfl) (fun _ _ _ h => h) (Or.inl ⟨by rfl, ?_⟩) (by assumption) ?_
          rotate_left
          · intro w hSw
            try dsimp only at hSw
            go_simp
            try with_reducible rfl
          try simp only [Act.put, List.setIfInBounds_toArray, List.set_cons_zero, List.set_cons_succ]
          refine wpAnyH_ready (rs := [5]) (by kernel_rfl) (by simp) ?_
          refine AllReadyH.cons rfl (fun K hK => ?_) AllReadyH.nil
          go_simp
          refine (has_s bo m dap old p _ HOd.out).mono ?_
          rintro e w5 ⟨rfl, rfl⟩
          rw [HM1.out]
          go_wp2_with fail
          refine hK.out _ _ ?_ (fun hHeld => ?_)
          · assumption
          clear hK K
          try simp only [Act.put, List.setIfInBounds_toArray, List.set_cons_zero, List.set_cons_succ]
          refine wpAnyH_take (i := 6) (oi := { dst := some 24, op := _, type := _, pos := _, after := _, guard := _ }) (v := ?_) rfl (by kernel_rfl) (by kernel_rfl) (by kernel_rfl) (fun _ _ _ h => h) (Or.inl ⟨by rfl, ?_⟩) (by assumption) ?_
          rotate_left
          · intro w hSw
            try dsimp only at hSw
            go_simp
            try with_reducible rfl
          try simp only [Act.put, List.setIfInBounds_toArray, List.set_cons_zero, List.set_cons_succ]
          refine wpAnyH_take (i := 7) (oi := { dst := some 25, op := _, type := _, pos := _, after := _, guard := _ }) (v := undef) rfl (by kernel_rfl) (by kernel_rfl) (by kernel_rfl) (fun _ _ _ h => h) (Or.inr ⟨by rfl, rfl⟩) (by assumption) ?_
          try simp only [Act.put, List.setIfInBounds_toArray, List.set_cons_zero, List.set_cons_succ]
          refine wpAnyH_take (i := 8) (oi := { dst := some 26, op := _, type := _, pos := _, after := _, guard := _ }) (v := undef) rfl (by kernel_rfl) (by kernel_rfl) (by kernel_rfl) (fun _ _ _ h => h) (Or.inr ⟨by rfl, rfl⟩) (by assumption) ?_
          try simp only [Act.put, List.setIfInBounds_toArray, List.set_cons_zero, List.set_cons_succ]
          refine wpAnyH_take (i := 9) (oi := { dst := some 27, op := _, type := _, pos := _, after := _, guard := _ }) (v := undef) rfl (by kernel_rfl) (by kernel_rfl) (by kernel_rfl) (fun _ _ _ h => h) (Or.inr ⟨by rfl, rfl⟩) (by assumption) ?_
          try simp only [Act.put, List.setIfInBounds_toArray, List.set_cons_zero, List.set_cons_succ]
          refine wpAnyH_take (i := 10) (oi := { dst := some 28, op := _, type := _, pos := _, after := _, guard := _ }) (v := undef) rfl (by kernel_rfl) (by kernel_rfl) (by kernel_rfl) (fun _ _ _ h => h) (Or.inr ⟨by rfl, rfl⟩) (by assumption) ?_
          try simp only [Act.put, List.setIfInBounds_toArray, List.set_cons_zero, List.set_cons_succ]
          refine wpAnyH_take (i := 11) (oi := { dst := some 29, op := _, type := _, pos := _, after := _, guard := _ }) (v := undef) rfl (by kernel_rfl) (by kernel_rfl) (by kernel_rfl) (fun _ _ _ h => h) (Or.inr ⟨by rfl, rfl⟩) (by assumption) ?_
          try simp only [Act.put, List.setIfInBounds_toArray, List.set_cons_zero, List.set_cons_succ]
          refine wpAnyH_take (i := 12) (oi := { dst := some 30, op := _, type := _, pos := _, after := _, guard := _ }) (v := undef) rfl (by kernel_rfl) (by kernel_rfl) (by kernel_rfl) (fun _ _ _ h => h) (Or.inr ⟨by rfl, rfl⟩) (by assumption) ?_
          try simp only [Act.put, List.setIfInBounds_toArray, List.set_cons_zero, List.set_cons_succ]
          refine wpAnyH_take (i := 13) (oi := { dst := some 31, op := _, type := _, pos := _, after := _, guard := _ }) (v := undef) rfl (by kernel_rfl) (by kernel_rfl) (by kernel_rfl) (fun _ _ _ h => h) (Or.inr ⟨by rfl, rfl⟩) (by assumption) ?_
          try simp only [Act.put, List.setIfInBounds_toArray, List.set_cons_zero, List.set_cons_succ]
          refine wpAnyH_take (i := 14) (oi := { dst := some 32, op := _, type := _, pos := _, after := _, guard := _ }) (v := undef) rfl (by kernel_rfl) (by kernel_rfl) (by kernel_rfl) (fun _ _ _ h => h) (Or.inr ⟨by rfl, rfl⟩) (by assumption) ?_
          try simp only [Act.put, List.setIfInBounds_toArray, List.set_cons_zero, List.set_cons_succ]
          refine wpAnyH_take (i := 15) (oi := { dst := some 33, op := _, type := _, pos := _, after := _, guard := _ }) (v := ?_) rfl (by kernel_rfl) (by kernel_rfl) (by kernel_rfl) (fun _ _ _ h => h) (Or.inl ⟨by rfl, ?_⟩) (by assumption) ?_
          rotate_left
          · intro w hSw
            try dsimp only at hSw
            go_simp
            try with_reducible rfl
          try simp only [Act.put, List.setIfInBounds_toArray, List.set_cons_zero, List.set_cons_succ]
          refine wpAnyH_done (by kernel_rfl) ?_ _
          go_wp2_with fail
          go_ret
          exact ⟨by rw [HR.out]; rfl, HB.out.drew⟩
        | false =>
          cases m2 with
          | true =>
            have HR := Lib.hid (show chkV vs old = 7 by rw [if_pos (.inr rfl)] at HE; unfold chkV; rw [HF.out (by rw [HE.out]; decide), HE.out])
            go_wp2_with (go_at_call 67; refine (rClean_s p _ (by omega)).mono ?_; rintro e w' ⟨rfl, rfl⟩; rw [HCL.out])
            refine wp_region_held_drew (S := fun W => W.cell? ⟨b, off + j, none⟩ = some (.string p)) (by kernel_rfl) (hcell) (fun hS => ?_)
            refine wpAnyH_take (i := 0) (oi := { dst := some 18, op := _, type := _, pos := _, after := _, guard := _ }) (v := ?_) rfl (by kernel_rfl) (by kernel_rfl) (by kernel_rfl) (fun _ _ _ h => h) (Or.inl ⟨by rfl, ?_⟩) (by assumption) ?_
            rotate_left
            · intro w hSw
              try dsimp only at hSw
              go_simp
              try with_reducible rfl
            try simp only [Act.put, List.setIfInBounds_toArray, List.set_cons_zero, List.set_cons_succ]
            refine wpAnyH_take (i := 1) (oi := { dst := some 19, op := _, type := _, pos := _, after := _, guard := _ }) (v := ?_) rfl (by kernel_rfl) (by kernel_rfl) (by kernel_rfl) (fun _ _ _ h => h) (Or.inl ⟨by rfl, ?_⟩) (by assumption) ?_
            rotate_left
            · intro w hSw
              try dsimp only at hSw
              go_simp
              try with_reducible rfl
            try simp only [Act.put, List.setIfInBounds_toArray, List.set_cons_zero, List.set_cons_succ]
            refine wpAnyH_take (i := 2) (oi := { dst := some 20, op := _, type := _, pos := _, after := _, guard := _ }) (v := ?_) rfl (by kernel_rfl) (by kernel_rfl) (by kernel_rfl) (fun _ _ _ h => h) (Or.inl ⟨by rfl, ?_⟩) (by assumption) ?_
            rotate_left
            · intro w hSw
              try dsimp only at hSw
              go_simp
              try with_reducible rfl
            try simp only [Act.put, List.setIfInBounds_toArray, List.set_cons_zero, List.set_cons_succ]
            refine wpAnyH_take (i := 3) (oi := { dst := some 21, op := _, type := _, pos := _, after := _, guard := _ }) (v := ?_) rfl (by kernel_rfl) (by kernel_rfl) (by kernel_rfl) (fun _ _ _ h => h) (Or.inl ⟨by rfl, ?_⟩) (by assumption) ?_
            rotate_left
            · intro w hSw
              try dsimp only at hSw
              go_simp
              try with_reducible rfl
            try simp only [Act.put, List.setIfInBounds_toArray, List.set_cons_zero, List.set_cons_succ]
            refine wpAnyH_take (i := 4) (oi := { dst := some 22, op := _, type := _, pos := _, after := _, guard := _ }) (v := ?_) rfl (by kernel_rfl) (by kernel_rfl) (by kernel_rfl) (fun _ _ _ h => h) (Or.inl ⟨by rfl, ?_⟩) (by assumption) ?_
            rotate_left
            · intro w hSw
              try dsimp only at hSw
              go_simp
              try with_reducible rfl
            try simp only [Act.put, List.setIfInBounds_toArray, List.set_cons_zero, List.set_cons_succ]
            refine wpAnyH_ready (rs := [5]) (by kernel_rfl) (by simp) ?_
            refine AllReadyH.cons rfl (fun K hK => ?_) AllReadyH.nil
            go_simp
            refine (has_s bo m dap old p _ HOd.out).mono ?_
            rintro e w5 ⟨rfl, rfl⟩
            rw [HM1.out]
            go_wp2_with fail
            refine hK.out _ _ ?_ (fun hHeld => ?_)
            · assumption
            clear hK K
            try simp only [Act.put, List.setIfInBounds_toArray, List.set_cons_zero, List.set_cons_succ]
            refine wpAnyH_take (i := 6) (oi := { dst := some 24, op := _, type := _, pos := _, after := _, guard := _ }) (v := ?_) rfl (by kernel_rfl) (by kernel_rfl) (by kernel_rfl) (fun _ _ _ h => h) (Or.inl ⟨by rfl, ?_⟩) (by assumption) ?_
            rotate_left
            · intro w hSw
              try dsimp only at hSw
              go_simp
              try with_reducible rfl
            try simp only [Act.put, List.setIfInBounds_toArray, List.set_cons_zero, List.set_cons_succ]
            refine wpAnyH_take (i := 7) (oi := { dst := some 25, op := _, type := _, pos := _, after := _, guard := _ }) (v := ?_) rfl (by kernel_rfl) (by kernel_rfl) (by kernel_rfl) (fun _ _ _ h => h) (Or.inl ⟨by rfl, ?_⟩) (by assumption) ?_
            rotate_left
            · intro w hSw
              try dsimp only at hSw
              go_simp
              try with_reducible rfl
            try simp only [Act.put, List.setIfInBounds_toArray, List.set_cons_zero, List.set_cons_succ]
            refine wpAnyH_take (i := 8) (oi := { dst := some 26, op := _, type := _, pos := _, after := _, guard := _ }) (v := ?_) rfl (by kernel_rfl) (by kernel_rfl) (by kernel_rfl) (fun _ _ _ h => h) (Or.inl ⟨by rfl, ?_⟩) (by assumption) ?_
            rotate_left
            · intro w hSw
              try dsimp only at hSw
              go_simp
              try with_reducible rfl
            try simp only [Act.put, List.setIfInBounds_toArray, List.set_cons_zero, List.set_cons_succ]
            refine wpAnyH_take (i := 9) (oi := { dst := some 27, op := _, type := _, pos := _, after := _, guard := _ }) (v := ?_) rfl (by kernel_rfl) (by kernel_rfl) (by kernel_rfl) (fun _ _ _ h => h) (Or.inl ⟨by rfl, ?_⟩) (by assumption) ?_
            rotate_left
            · intro w hSw
              try dsimp only at hSw
              go_simp
              try with_reducible rfl
            try simp only [Act.put, List.setIfInBounds_toArray, List.set_cons_zero, List.set_cons_succ]
            refine wpAnyH_take (i := 10) (oi := { dst := some 28, op := _, type := _, pos := _, after := _, guard := _ }) (v := ?_) rfl (by kernel_rfl) (by kernel_rfl) (by kernel_rfl) (fun _ _ _ h => h) (Or.inl ⟨by rfl, ?_⟩) (by assumption) ?_
            rotate_left
            · intro w hSw
              try dsimp only at hSw
              go_simp
              try with_reducible rfl
            try simp only [Act.put, List.setIfInBounds_toArray, List.set_cons_zero, List.set_cons_succ]
            refine wpAnyH_take (i := 11) (oi := { dst := some 29, op := _, type := _, pos := _, after := _, guard := _ }) (v := ?_) rfl (by kernel_rfl) (by kernel_rfl) (by kernel_rfl) (fun _ _ _ h => h) (Or.inl ⟨by rfl, ?_⟩) (by assumption) ?_
            rotate_left
            · intro w hSw
              try dsimp only at hSw
              go_simp
              try with_reducible rfl
            try simp only [Act.put, List.setIfInBounds_toArray, List.set_cons_zero, List.set_cons_succ]
            refine wpAnyH_take (i := 12) (oi := { dst := some 30, op := _, type := _, pos := _, after := _, guard := _ }) (v := ?_) rfl (by kernel_rfl) (by kernel_rfl) (by kernel_rfl) (fun _ _ _ h => h) (Or.inl ⟨by rfl, ?_⟩) (by assumption) ?_
            rotate_left
            · intro w hSw
              try dsimp only at hSw
              go_simp
              try with_reducible rfl
            try simp only [Act.put, List.setIfInBounds_toArray, List.set_cons_zero, List.set_cons_succ]
            refine wpAnyH_take (i := 13) (oi := { dst := some 31, op := _, type := _, pos := _, after := _, guard := _ }) (v := ?_) rfl (by kernel_rfl) (by kernel_rfl) (by kernel_rfl) (fun _ _ _ h => h) (Or.inl ⟨by rfl, ?_⟩) (by assumption) ?_
            rotate_left
            · intro w hSw
              try dsimp only at hSw
              go_simp
              try with_reducible rfl
            try simp only [Act.put, List.setIfInBounds_toArray, List.set_cons_zero, List.set_cons_succ]
            refine wpAnyH_ready (rs := [14]) (by kernel_rfl) (by simp) ?_
            refine AllReadyH.cons rfl (fun K hK => ?_) AllReadyH.nil
            go_simp
            refine (has_s _ j cap (vs.take j) p _ HCd.out).mono ?_
            rintro e w5 ⟨rfl, rfl⟩
            rw [HM2.out]
            go_wp2_with fail
            refine hK.out _ _ ?_ (fun hHeld => ?_)
            · assumption
            clear hK K
            try simp only [Act.put, List.setIfInBounds_toArray, List.set_cons_zero, List.set_cons_succ]
            refine wpAnyH_take (i := 15) (oi := { dst := some 33, op := _, type := _, pos := _, after := _, guard := _ }) (v := ?_) rfl (by kernel_rfl) (by kernel_rfl) (by kernel_rfl) (fun _ _ _ h => h) (Or.inl ⟨by rfl, ?_⟩) (by assumption) ?_
            rotate_left
            · intro w hSw
              try dsimp only at hSw
              go_simp
              try with_reducible rfl
            try simp only [Act.put, List.setIfInBounds_toArray, List.set_cons_zero, List.set_cons_succ]
            refine wpAnyH_done (by kernel_rfl) ?_ _
            go_wp2_with fail
            go_ret
            exact ⟨by rw [HR.out]; rfl, HB.out.drew⟩
          | false =>
            have HZ := Lib.hid (show errV vs old j = 0 by rw [HE.out]; simp)
            have HB2 := Lib.hid HB.out.drew
            go_wp2_with (go_at_call 67; refine (rClean_s p _ (by omega)).mono ?_; rintro e w' ⟨rfl, rfl⟩; rw [HCL.out])
            refine wp_region_held_drew (S := fun W => W.cell? ⟨b, off + j, none⟩ = some (.string p)) (by kernel_rfl) (hcell) (fun hS => ?_)
            refine wpAnyH_take (i := 0) (oi := { dst := some 18, op := _, type := _, pos := _, after := _, guard := _ }) (v := ?_) rfl (by kernel_rfl) (by kernel_rfl) (by kernel_rfl) (fun _ _ _ h => h) (Or.inl ⟨by rfl, ?_⟩) (by assumption) ?_
            rotate_left
            · intro w hSw
              try dsimp only at hSw
              go_simp
              try with_reducible rfl
            try simp only [Act.put, List.setIfInBounds_toArray, List.set_cons_zero, List.set_cons_succ]
            refine wpAnyH_take (i := 1) (oi := { dst := some 19, op := _, type := _, pos := _, after := _, guard := _ }) (v := ?_) rfl (by kernel_rfl) (by kernel_rfl) (by kernel_rfl) (fun _ _ _ h => h) (Or.inl ⟨by rfl, ?_⟩) (by assumption) ?_
            rotate_left
            · intro w hSw
              try dsimp only at hSw
              go_simp
              try with_reducible rfl
            try simp only [Act.put, List.setIfInBounds_toArray, List.set_cons_zero, List.set_cons_succ]
            refine wpAnyH_take (i := 2) (oi := { dst := some 20, op := _, type := _, pos := _, after := _, guard := _ }) (v := ?_) rfl (by kernel_rfl) (by kernel_rfl) (by kernel_rfl) (fun _ _ _ h => h) (Or.inl ⟨by rfl, ?_⟩) (by assumption) ?_
            rotate_left
            · intro w hSw
              try dsimp only at hSw
              go_simp
              try with_reducible rfl
            try simp only [Act.put, List.setIfInBounds_toArray, List.set_cons_zero, List.set_cons_succ]
            refine wpAnyH_take (i := 3) (oi := { dst := some 21, op := _, type := _, pos := _, after := _, guard := _ }) (v := ?_) rfl (by kernel_rfl) (by kernel_rfl) (by kernel_rfl) (fun _ _ _ h => h) (Or.inl ⟨by rfl, ?_⟩) (by assumption) ?_
            rotate_left
            · intro w hSw
              try dsimp only at hSw
              go_simp
              try with_reducible rfl
            try simp only [Act.put, List.setIfInBounds_toArray, List.set_cons_zero, List.set_cons_succ]
            refine wpAnyH_take (i := 4) (oi := { dst := some 22, op := _, type := _, pos := _, after := _, guard := _ }) (v := ?_) rfl (by kernel_rfl) (by kernel_rfl) (by kernel_rfl) (fun _ _ _ h => h) (Or.inl ⟨by rfl, ?_⟩) (by assumption) ?_
            rotate_left
            · intro w hSw
              try dsimp only at hSw
              go_simp
              try with_reducible rfl
            try simp only [Act.put, List.setIfInBounds_toArray, List.set_cons_zero, List.set_cons_succ]
            refine wpAnyH_ready (rs := [5]) (by kernel_rfl) (by simp) ?_
            refine AllReadyH.cons rfl (fun K hK => ?_) AllReadyH.nil
            go_simp
            refine (has_s bo m dap old p _ HOd.out).mono ?_
            rintro e w5 ⟨rfl, rfl⟩
            rw [HM1.out]
            go_wp2_with fail
            refine hK.out _ _ ?_ (fun hHeld => ?_)
            · assumption
            clear hK K
            try simp only [Act.put, List.setIfInBounds_toArray, List.set_cons_zero, List.set_cons_succ]
            refine wpAnyH_take (i := 6) (oi := { dst := some 24, op := _, type := _, pos := _, after := _, guard := _ }) (v := ?_) rfl (by kernel_rfl) (by kernel_rfl) (by kernel_rfl) (fun _ _ _ h => h) (Or.inl ⟨by rfl, ?_⟩) (by assumption) ?_
            rotate_left
            · intro w hSw
              try dsimp only at hSw
              go_simp
              try with_reducible rfl
            try simp only [Act.put, List.setIfInBounds_toArray, List.set_cons_zero, List.set_cons_succ]
            refine wpAnyH_take (i := 7) (oi := { dst := some 25, op := _, type := _, pos := _, after := _, guard := _ }) (v := ?_) rfl (by kernel_rfl) (by kernel_rfl) (by kernel_rfl) (fun _ _ _ h => h) (Or.inl ⟨by rfl, ?_⟩) (by assumption) ?_
            rotate_left
            · intro w hSw
              try dsimp only at hSw
              go_simp
              try with_reducible rfl
            try simp only [Act.put, List.setIfInBounds_toArray, List.set_cons_zero, List.set_cons_succ]
            refine wpAnyH_take (i := 8) (oi := { dst := some 26, op := _, type := _, pos := _, after := _, guard := _ }) (v := ?_) rfl (by kernel_rfl) (by kernel_rfl) (by kernel_rfl) (fun _ _ _ h => h) (Or.inl ⟨by rfl, ?_⟩) (by assumption) ?_
            rotate_left
            · intro w hSw
              try dsimp only at hSw
              go_simp
              try with_reducible rfl
            try simp only [Act.put, List.setIfInBounds_toArray, List.set_cons_zero, List.set_cons_succ]
            refine wpAnyH_take (i := 9) (oi := { dst := some 27, op := _, type := _, pos := _, after := _, guard := _ }) (v := ?_) rfl (by kernel_rfl) (by kernel_rfl) (by kernel_rfl) (fun _ _ _ h => h) (Or.inl ⟨by rfl, ?_⟩) (by assumption) ?_
            rotate_left
            · intro w hSw
              try dsimp only at hSw
              go_simp
              try with_reducible rfl
            try simp only [Act.put, List.setIfInBounds_toArray, List.set_cons_zero, List.set_cons_succ]
            refine wpAnyH_take (i := 10) (oi := { dst := some 28, op := _, type := _, pos := _, after := _, guard := _ }) (v := ?_) rfl (by kernel_rfl) (by kernel_rfl) (by kernel_rfl) (fun _ _ _ h => h) (Or.inl ⟨by rfl, ?_⟩) (by assumption) ?_
            rotate_left
            · intro w hSw
              try dsimp only at hSw
              go_simp
              try with_reducible rfl
            try simp only [Act.put, List.setIfInBounds_toArray, List.set_cons_zero, List.set_cons_succ]
            refine wpAnyH_take (i := 11) (oi := { dst := some 29, op := _, type := _, pos := _, after := _, guard := _ }) (v := ?_) rfl (by kernel_rfl) (by kernel_rfl) (by kernel_rfl) (fun _ _ _ h => h) (Or.inl ⟨by rfl, ?_⟩) (by assumption) ?_
            rotate_left
            · intro w hSw
              try dsimp only at hSw
              go_simp
              try with_reducible rfl
            try simp only [Act.put, List.setIfInBounds_toArray, List.set_cons_zero, List.set_cons_succ]
            refine wpAnyH_take (i := 12) (oi := { dst := some 30, op := _, type := _, pos := _, after := _, guard := _ }) (v := ?_) rfl (by kernel_rfl) (by kernel_rfl) (by kernel_rfl) (fun _ _ _ h => h) (Or.inl ⟨by rfl, ?_⟩) (by assumption) ?_
            rotate_left
            · intro w hSw
              try dsimp only at hSw
              go_simp
              try with_reducible rfl
            try simp only [Act.put, List.setIfInBounds_toArray, List.set_cons_zero, List.set_cons_succ]
            refine wpAnyH_take (i := 13) (oi := { dst := some 31, op := _, type := _, pos := _, after := _, guard := _ }) (v := ?_) rfl (by kernel_rfl) (by kernel_rfl) (by kernel_rfl) (fun _ _ _ h => h) (Or.inl ⟨by rfl, ?_⟩) (by assumption) ?_
            rotate_left
            · intro w hSw
              try dsimp only at hSw
              go_simp
              try with_reducible rfl
            try simp only [Act.put, List.setIfInBounds_toArray, List.set_cons_zero, List.set_cons_succ]
            refine wpAnyH_ready (rs := [14]) (by kernel_rfl) (by simp) ?_
            refine AllReadyH.cons rfl (fun K hK => ?_) AllReadyH.nil
            go_simp
            refine (has_s _ j cap (vs.take j) p _ HCd.out).mono ?_
            rintro e w5 ⟨rfl, rfl⟩
            rw [HM2.out]
            go_wp2_with fail
            refine hK.out _ _ ?_ (fun hHeld => ?_)
            · assumption
            clear hK K
            try simp only [Act.put, List.setIfInBounds_toArray, List.set_cons_zero, List.set_cons_succ]
            refine wpAnyH_take (i := 15) (oi := { dst := some 33, op := _, type := _, pos := _, after := _, guard := _ }) (v := ?_) rfl (by kernel_rfl) (by kernel_rfl) (by kernel_rfl) (fun _ _ _ h => h) (Or.inl ⟨by rfl, ?_⟩) (by assumption) ?_
            rotate_left
            · intro w hSw
              try dsimp only at hSw
              go_simp
              try with_reducible rfl
            try simp only [Act.put, List.setIfInBounds_toArray, List.set_cons_zero, List.set_cons_succ]
            refine wpAnyH_done (by kernel_rfl) ?_ _
            go_wp2_with fail
            go_roundw
            case rel =>
              refine ⟨j + 1, by omega, by go_num, Lib.hid fun q hq => ?_, HB2⟩
              by_cases e : q = j
              · rw [e]; exact HZ.out
              · exact HA.out q (by omega)
            case measure => simp [intOf]; omega
    · obtain rfl : j = vs.length := by omega
      have HR := Lib.hid (show chkV vs old = 0 from firstE_zero HA.out)
      go_wp2_with fail
      go_ret
      exact ⟨by rw [HR.out]; rfl, HB.out⟩

end Go.Proofs.Ytahpocpagidahaa
