/-
  Texts of the schema layer and of those beneath it, joined: AttR5, AttP1. Conditions stand at each contract.
-/
import Derived.Test.YtclfjdnemafmeaaGreatDoorM03
import Derived.Test.YtclfjdnemafmeaaGreatDoorM05
import Derived.Test.YtclfjdnemafmeaaGreatDoorM06

section
/-
  Contracts of the specification's checkValues and with. Condition: as Sorted's.
-/
set_option maxRecDepth 100000
set_option linter.unusedVariables false
set_option linter.unusedSimpArgs false
set_option linter.unnecessarySimpa false
namespace Go.Proofs.YtclfjdnemafmeaaGreatDoor
open Go.RowKit Go.PlainAid

theorem sum_none : ∀ l : List Nat, (∀ x ∈ l, x = 0) → l.sum = 0
  | [], _ => rfl
  | x :: l, h => by
    rw [List.sum_cons, h x (List.mem_cons_self ..), sum_none l fun y hy => h y (List.mem_cons_of_mem _ hy)]
theorem sum_hit (m : Nat) (n : ByteArray) : ∀ ns : List ByteArray, ns.Nodup → (ns.map fun k => if n = k then m else 0).sum ≤ m
  | [], _ => Nat.zero_le _
  | k :: ns, h => by
    have h' := List.nodup_cons.1 h
    rw [List.map_cons, List.sum_cons]
    by_cases e : n = k
    · rw [if_pos e]
      have hz : (ns.map fun k => if n = k then m else 0).sum = 0 := by
        refine sum_none _ fun x hx => ?_
        obtain ⟨j, hj, rfl⟩ := List.mem_map.1 hx
        rw [if_neg fun e2 => h'.1 (by rw [← e, e2]; exact hj)]
      omega
    · rw [if_neg e]
      have := sum_hit m n ns h'.2
      omega
theorem sum_le {α : Type} (f g : α → Nat) : ∀ l : List α, (∀ x ∈ l, f x ≤ g x) → (l.map f).sum ≤ (l.map g).sum
  | [], _ => Nat.le_refl _
  | x :: l, h => by
    rw [List.map_cons, List.map_cons, List.sum_cons, List.sum_cons]
    have h1 := h x (List.mem_cons_self ..)
    have h2 := sum_le f g l fun y hy => h y (List.mem_cons_of_mem _ hy)
    omega
theorem sum_add {α : Type} (f g : α → Nat) : ∀ l : List α, (l.map fun x => f x + g x).sum = (l.map f).sum + (l.map g).sum
  | [] => rfl
  | x :: l => by
    rw [List.map_cons, List.map_cons, List.map_cons, List.sum_cons, List.sum_cons, List.sum_cons, sum_add f g l]; omega
theorem sum_allV : ∀ (l : List At) (ns : List ByteArray), ns.Nodup → (ns.map fun n => (allV l n).length).sum ≤ sumV l
  | [], ns, _ => by
    have : (ns.map fun n => (allV [] n).length).sum = 0 := by
      refine sum_none _ fun x hx => ?_
      obtain ⟨j, hj, rfl⟩ := List.mem_map.1 hx
      rfl
    rw [this]; exact Nat.zero_le _
  | a :: l, ns, h => by
    have e : (fun n => (allV (a :: l) n).length) = fun n => (if lowS a.1 = n then a.2.length else 0) + (allV l n).length := by
      funext n
      rw [allV_cons, List.length_append]
      split <;> rfl
    rw [e, sum_add, sumV_cons]
    have h1 := sum_hit a.2.length (lowS a.1) ns h
    have h2 := sum_allV l ns h
    omega
theorem sumV_nf (l : List At) : sumV (nf l) ≤ sumV l := by
  unfold sumV nf
  rw [List.map_map]
  refine Nat.le_trans (sum_le _ (fun n => (allV l n).length) _ fun n _ => ?_) (sum_allV l _ (asc_nodup (names_asc l)))
  exact sortU_len _
theorem sumV_append (l k : List At) : sumV (l ++ k) = sumV l + sumV k := by unfold sumV; rw [List.map_append, List.sum_append]
theorem sumV_filter (p : At → Bool) : ∀ l : List At, sumV (l.filter p) ≤ sumV l
  | [] => Nat.le_refl _
  | a :: l => by
    have := sumV_filter p l
    by_cases h : p a = true
    · rw [List.filter_cons_of_pos h, sumV_cons, sumV_cons]; omega
    · rw [List.filter_cons_of_neg h, sumV_cons]; omega
theorem few_nf {l : List At} (h : Few l) : Few (nf l) := ⟨nf_small h.small, Nat.le_trans (sumV_nf l) h.vals, Nat.le_trans (nf_len l) h.len⟩
theorem few_wth {l : List At} (h : Few l) (lw : ByteArray) : Few (wthL l lw) :=
  ⟨fun a ha => (few_nf h).small a (List.mem_filter.1 ha).1, Nat.le_trans (sumV_filter _ _) (few_nf h).vals, Nat.le_trans (List.length_filter_le _ _) (few_nf h).len⟩
/-- there is room for the values vs under one more name -/
structure Room (l : List At) (vs : List ByteArray) : Prop where
  small : SmallA l
  vals : sumV l + vs.length ≤ 100000
  len : l.length ≤ 999
  vsmall : SmallS vs
theorem Room.few {l : List At} {vs : List ByteArray} (h : Room l vs) : Few l := ⟨h.small, by have := h.vals; omega, by have := h.len; omega⟩
theorem few_with {l : List At} {vs : List ByteArray} (h : Room l vs) (lw : ByteArray) {name : ByteArray} (hn : name.size ≤ 1000000) : Few (wthL l lw ++ [(name, vs)]) := by
  have h1 := few_wth h.few lw
  refine ⟨fun a ha => ?_, ?_, ?_⟩
  · rcases List.mem_append.1 ha with k | k
    · exact h1.small a k
    · rw [List.mem_singleton.1 k]; exact ⟨hn, h.vsmall⟩
  · rw [sumV_append]
    have h2 := sumV_filter (fun a => decide (a.1 ≠ lw)) (nf l)
    have h3 := sumV_nf l
    have h4 := h.vals
    have h5 : sumV [(name, vs)] = vs.length := rfl
    unfold wthL
    omega
  · rw [List.length_append, List.length_singleton]
    have h2 := List.length_filter_le (fun a : At => decide (a.1 ≠ lw)) (nf l)
    have h3 := nf_len l
    have h4 := h.len
    unfold wthL
    omega
def withL (l : List At) (name : ByteArray) (vs : List ByteArray) : List At := nf (wthL l (lowS name) ++ [(name, vs)])
/-- the list, or an error where it or the values are too many -/
def limR (l : List At) (m : Nat) : List At × Int := if 32 < l.length ∨ 16 < m then ([], 3) else (l, 0)

set_option maxRecDepth 100000 in
set_option maxHeartbeats 4000000 in
theorem rcheckV_s (ao bo : Option Addr) (n m cap dap : Nat) (vs old : List ByteArray) (w : World) (h : StrsAt w ao n cap vs) (k : StrsAt w bo m dap old) (hS : SmallS vs) :
    Calls Tryz.prog 108 #[.slice ao n cap, .slice bo m dap] w fun e w' => e = .returned (.int .i64 (chkV vs old)) ∧ Below w.heap.size w w' := by
  have HVS := Lib.hid h
  have HOL := Lib.hid k
  obtain ⟨h1, h2, h3, h4⟩ := h
  subst h1
  unfold maxLen at h3
  have H4 := Lib.hid h4; clear h4
  have HS := Lib.hid hS; clear hS k
  go_enter Tryz.func108, Tryz.ntmps108
  go_wp2
  go_loopw [5] (fun i wr => ∃ j : Nat, j ≤ vs.length ∧ i = .int .i64 j ∧ Hid (∀ q, q < j → errV vs old q = 0) ∧ Hid (Below w.heap.size w wr)) (fun i _ => vs.length - (intOf i).toNat)
  case atStart => exact ⟨0, Nat.zero_le _, rfl, Lib.hid (fun q hq => absurd hq (Nat.not_lt_zero _)), Lib.hid (Below.refl _ _)⟩
  case round =>
    obtain ⟨j, hj, rfl, HA, HB⟩ := hrel
    by_cases hlt : j < vs.length
    · obtain ⟨b, off, rfl, hs⟩ := H4.out (by omega)
      have hcell := (hs.below HB.out hs.1).2 j hlt
      clear hs
      have HE := Lib.hid (show errV vs old j = if cleanB (partAt vs j) = false then 4 else if memB old (partAt vs j) = true ∨ memB (vs.take j) (partAt vs j) = true then 7 else 0 from rfl)
      obtain ⟨p, hp⟩ : ∃ x, partAt vs j = x := ⟨_, rfl⟩
      have hps : p.size ≤ 1000000 := by rw [← hp]; exact HS.out _ (part_mem vs j hlt)
      rw [hp] at hcell HE
      clear hp
      have d0 : (0 : Int) ≤ (j : Int) := by omega
      have d1 : (j : Int) < (vs.length : Int) := by omega
      have d2 : (j : Int) ≤ (cap : Int) := by omega
      have HVd : Hid (StrsAt wr.drew (some ⟨b, off, none⟩) vs.length cap vs) := Lib.hid ((HVS.out.below HB.out).below (Below.refl _ wr).drew)
      have HCd : Hid (StrsAt wr.drew (some ⟨b, off, none⟩) j cap (vs.take j)) := Lib.hid (HVd.out.cut j hj)
      have HOd : Hid (StrsAt wr.drew bo m dap old) := Lib.hid ((HOL.out.below HB.out).below (Below.refl _ wr).drew)
      obtain ⟨cl, hcl⟩ : ∃ x, cleanB p = x := ⟨_, rfl⟩
      obtain ⟨m1, hm1⟩ : ∃ x, memB old p = x := ⟨_, rfl⟩
      obtain ⟨m2, hm2⟩ : ∃ x, memB (vs.take j) p = x := ⟨_, rfl⟩
      rw [hcl, hm1, hm2] at HE
      have HCL := Lib.hid hcl
      have HM1 := Lib.hid hm1
      have HM2 := Lib.hid hm2
      clear hcl hm1 hm2
      have HF := Lib.hid (fun (e : errV vs old j ≠ 0) => firstE_hit (f := errV vs old) HA.out e hlt)
      cases cl with
      | false =>
        have HR := Lib.hid (show chkV vs old = 4 by rw [if_pos rfl] at HE; unfold chkV; rw [HF.out (by rw [HE.out]; decide), HE.out])
        go_wp2_with (go_at_call 55; refine (rClean_s p _ (by omega)).mono ?_; rintro e w' ⟨rfl, rfl⟩; rw [HCL.out])
        go_ret
        exact ⟨by rw [HR.out]; rfl, HB.out⟩
      | true =>
        rw [if_neg (by simp)] at HE
        cases m1 with
        | true =>
          have HR := Lib.hid (show chkV vs old = 7 by rw [if_pos (.inl rfl)] at HE; unfold chkV; rw [HF.out (by rw [HE.out]; decide), HE.out])
          go_wp2_with (go_at_call 55; refine (rClean_s p _ (by omega)).mono ?_; rintro e w' ⟨rfl, rfl⟩; rw [HCL.out])
          refine wp_region_held_drew (S := fun W => W.cell? ⟨b, off + j, none⟩ = some (.string p)) (by kernel_rfl) (hcell) (fun hS => ?_)
          refine wpAnyH_take (i := 0) (oi := { dst := some 18, op := _, type := _, pos := _, after := _, guard := _ }) (v := ?_) rfl (by kernel_rfl) (by kernel_rfl) (by kernel_rfl) (fun _ _ _ h => h) (Or.inl ⟨by rfl, ?_⟩) (by assumption) ?_
          rotate_left
          · intro w hSw
            try dsimp only at hSw
            go_simp
            try with_reducible rfl
          try simp only [Act.put, List.setIfInBounds_toArray, List.set_cons_zero, List.set_cons_succ]
          refine wpAnyH_take (i := 1) (oi := { dst := some 19, op := _, type := _, pos := _, after := _, guard := _ }) (v := ?_) rfl (by kernel_rfl) (by kernel_rfl) (by kernel_rfl) (fun _ _ _ h => h) (Or.inl ⟨by rfl, ?_⟩) (by assumption) ?_
          rotate_left
          · intro w hSw
            try dsimp only at hSw
            go_simp
            try with_reducible rfl
          try simp only [Act.put, List.setIfInBounds_toArray, List.set_cons_zero, List.set_cons_succ]
          refine wpAnyH_take (i := 2) (oi := { dst := some 20, op := _, type := _, pos := _, after := _, guard := _ }) (v := ?_) rfl (by kernel_rfl) (by kernel_rfl) (by kernel_rfl) (fun _ _ _ h => h) (Or.inl ⟨by rfl, ?_⟩) (by assumption) ?_
          rotate_left
          · intro w hSw
            try dsimp only at hSw
            go_simp
            try with_reducible rfl
          try simp only [Act.put, List.setIfInBounds_toArray, List.set_cons_zero, List.set_cons_succ]
          refine wpAnyH_take (i := 3) (oi := { dst := some 21, op := _, type := _, pos := _, after := _, guard := _ }) (v := ?_) rfl (by kernel_rfl) (by kernel_rfl) (by kernel_rfl) (fun _ _ _ h => h) (Or.inl ⟨by rfl, ?_⟩) (by assumption) ?_
          rotate_left
          · intro w hSw
            try dsimp only at hSw
            go_simp
            try with_reducible rfl
          try simp only [Act.put, List.setIfInBounds_toArray, List.set_cons_zero, List.set_cons_succ]
          refine wpAnyH_take (i := 4) (oi := { dst := some 22, op := _, type := _, pos := _, after := _, guard := _ }) (v := ?_) rfl (by kernel_rfl) (by kernel_rfl) (by kernel_rfl) (fun _ _ _ h => h) (Or.inl ⟨by rfl, ?_⟩) (by assumption) ?_
          rotate_left
          · intro w hSw
            try dsimp only at hSw
            go_simp
            try with_reducible rfl
          try simp only [Act.put, List.setIfInBounds_toArray, List.set_cons_zero, List.set_cons_succ]
          refine wpAnyH_ready (rs := [5]) (by kernel_rfl) (by simp) ?_
          refine AllReadyH.cons rfl (fun K hK => ?_) AllReadyH.nil
          go_simp
          refine (has_s bo m dap old p _ HOd.out).mono ?_
          rintro e w5 ⟨rfl, rfl⟩
          rw [HM1.out]
          go_wp2_with fail
          refine hK.out _ _ ?_ (fun hHeld => ?_)
          · assumption
          clear hK K
          try simp only [Act.put, List.setIfInBounds_toArray, List.set_cons_zero, List.set_cons_succ]
          refine wpAnyH_take (i := 6) (oi := { dst := some 24, op := _, type := _, pos := _, after := _, guard := _ }) (v := ?_) rfl (by kernel_rfl) (by kernel_rfl) (by kernel_rfl) (fun _ _ _ h => h) (Or.inl ⟨by rfl, ?_⟩) (by assumption) ?_
          rotate_left
          · intro w hSw
            try dsimp only at hSw
            go_simp
            try with_reducible rfl
          try simp only [Act.put, List.setIfInBounds_toArray, List.set_cons_zero, List.set_cons_succ]
          refine wpAnyH_take (i := 7) (oi := { dst := some 25, op := _, type := _, pos := _, after := _, guard := _ }) (v := undef) rfl (by kernel_rfl) (by kernel_rfl) (by kernel_rfl) (fun _ _ _ h => h) (Or.inr ⟨by rfl, rfl⟩) (by assumption) ?_
          try simp only [Act.put, List.setIfInBounds_toArray, List.set_cons_zero, List.set_cons_succ]
          refine wpAnyH_take (i := 8) (oi := { dst := some 26, op := _, type := _, pos := _, after := _, guard := _ }) (v := undef) rfl (by kernel_rfl) (by kernel_rfl) (by kernel_rfl) (fun _ _ _ h => h) (Or.inr ⟨by rfl, rfl⟩) (by assumption) ?_
          try simp only [Act.put, List.setIfInBounds_toArray, List.set_cons_zero, List.set_cons_succ]
          refine wpAnyH_take (i := 9) (oi := { dst := some 27, op := _, type := _, pos := _, after := _, guard := _ }) (v := undef) rfl (by kernel_rfl) (by kernel_rfl) (by kernel_rfl) (fun _ _ _ h => h) (Or.inr ⟨by rfl, rfl⟩) (by assumption) ?_
          try simp only [Act.put, List.setIfInBounds_toArray, List.set_cons_zero, List.set_cons_succ]
          refine wpAnyH_take (i := 10) (oi := { dst := some 28, op := _, type := _, pos := _, after := _, guard := _ }) (v := undef) rfl (by kernel_rfl) (by kernel_rfl) (by kernel_rfl) (fun _ _ _ h => h) (Or.inr ⟨by rfl, rfl⟩) (by assumption) ?_
          try simp only [Act.put, List.setIfInBounds_toArray, List.set_cons_zero, List.set_cons_succ]
          refine wpAnyH_take (i := 11) (oi := { dst := some 29, op := _, type := _, pos := _, after := _, guard := _ }) (v := undef) rfl (by kernel_rfl) (by kernel_rfl) (by kernel_rfl) (fun _ _ _ h => h) (Or.inr ⟨by rfl, rfl⟩) (by assumption) ?_
          try simp only [Act.put, List.setIfInBounds_toArray, List.set_cons_zero, List.set_cons_succ]
          refine wpAnyH_take (i := 12) (oi := { dst := some 30, op := _, type := _, pos := _, after := _, guard := _ }) (v := undef) rfl (by kernel_rfl) (by kernel_rfl) (by kernel_rfl) (fun _ _ _ h => h) (Or.inr ⟨by rfl, rfl⟩) (by assumption) ?_
          try simp only [Act.put, List.setIfInBounds_toArray, List.set_cons_zero, List.set_cons_succ]
          refine wpAnyH_take (i := 13) (oi := { dst := some 31, op := _, type := _, pos := _, after := _, guard := _ }) (v := undef) rfl (by kernel_rfl) (by kernel_rfl) (by kernel_rfl) (fun _ _ _ h => h) (Or.inr ⟨by rfl, rfl⟩) (by assumption) ?_
          try simp only [Act.put, List.setIfInBounds_toArray, List.set_cons_zero, List.set_cons_succ]
          refine wpAnyH_take (i := 14) (oi := { dst := some 32, op := _, type := _, pos := _, after := _, guard := _ }) (v := undef) rfl (by kernel_rfl) (by kernel_rfl) (by kernel_rfl) (fun _ _ _ h => h) (Or.inr ⟨by rfl, rfl⟩) (by assumption) ?_
          try simp only [Act.put, List.setIfInBounds_toArray, List.set_cons_zero, List.set_cons_succ]
          refine wpAnyH_take (i := 15) (oi := { dst := some 33, op := _, type := _, pos := _, after := _, guard := _ }) (v := ?_) rfl (by kernel_rfl) (by kernel_rfl) (by kernel_rfl) (fun _ _ _ h => h) (Or.inl ⟨by rfl, ?_⟩) (by assumption) ?_
          rotate_left
          · intro w hSw
            try dsimp only at hSw
            go_simp
            try with_reducible rfl
          try simp only [Act.put, List.setIfInBounds_toArray, List.set_cons_zero, List.set_cons_succ]
          refine wpAnyH_done (by kernel_rfl) ?_ _
          go_wp2_with fail
          go_ret
          exact ⟨by rw [HR.out]; rfl, HB.out.drew⟩
        | false =>
          cases m2 with
          | true =>
            have HR := Lib.hid (show chkV vs old = 7 by rw [if_pos (.inr rfl)] at HE; unfold chkV; rw [HF.out (by rw [HE.out]; decide), HE.out])
            go_wp2_with (go_at_call 55; refine (rClean_s p _ (by omega)).mono ?_; rintro e w' ⟨rfl, rfl⟩; rw [HCL.out])
            refine wp_region_held_drew (S := fun W => W.cell? ⟨b, off + j, none⟩ = some (.string p)) (by kernel_rfl) (hcell) (fun hS => ?_)
            refine wpAnyH_take (i := 0) (oi := { dst := some 18, op := _, type := _, pos := _, after := _, guard := _ }) (v := ?_) rfl (by kernel_rfl) (by kernel_rfl) (by kernel_rfl) (fun _ _ _ h => h) (Or.inl ⟨by rfl, ?_⟩) (by assumption) ?_
            rotate_left
            · intro w hSw
              try dsimp only at hSw
              go_simp
              try with_reducible rfl
            try simp only [Act.put, List.setIfInBounds_toArray, List.set_cons_zero, List.set_cons_succ]
            refine wpAnyH_take (i := 1) (oi := { dst := some 19, op := _, type := _, pos := _, after := _, guard := _ }) (v := ?_) rfl (by kernel_rfl) (by kernel_rfl) (by kernel_rfl) (fun _ _ _ h => h) (Or.inl ⟨by rfl, ?_⟩) (by assumption) ?_
            rotate_left
            · intro w hSw
              try dsimp only at hSw
              go_simp
              try with_reducible rfl
            try simp only [Act.put, List.setIfInBounds_toArray, List.set_cons_zero, List.set_cons_succ]
            refine wpAnyH_take (i := 2) (oi := { dst := some 20, op := _, type := _, pos := _, after := _, guard := _ }) (v := ?_) rfl (by kernel_rfl) (by kernel_rfl) (by kernel_rfl) (fun _ _ _ h => h) (Or.inl ⟨by rfl, ?_⟩) (by assumption) ?_
            rotate_left
            · intro w hSw
              try dsimp only at hSw
              go_simp
              try with_reducible rfl
            try simp only [Act.put, List.setIfInBounds_toArray, List.set_cons_zero, List.set_cons_succ]
            refine wpAnyH_take (i := 3) (oi := { dst := some 21, op := _, type := _, pos := _, after := _, guard := _ }) (v := ?_) rfl (by kernel_rfl) (by kernel_rfl) (by kernel_rfl) (fun _ _ _ h => h) (Or.inl ⟨by rfl, ?_⟩) (by assumption) ?_
            rotate_left
            · intro w hSw
              try dsimp only at hSw
              go_simp
              try with_reducible rfl
            try simp only [Act.put, List.setIfInBounds_toArray, List.set_cons_zero, List.set_cons_succ]
            refine wpAnyH_take (i := 4) (oi := { dst := some 22, op := _, type := _, pos := _, after := _, guard := _ }) (v := ?_) rfl (by kernel_rfl) (by kernel_rfl) (by kernel_rfl) (fun _ _ _ h => h) (Or.inl ⟨by rfl, ?_⟩) (by assumption) ?_
            rotate_left
            · intro w hSw
              try dsimp only at hSw
              go_simp
              try with_reducible rfl
            try simp only [Act.put, List.setIfInBounds_toArray, List.set_cons_zero, List.set_cons_succ]
            refine wpAnyH_ready (rs := [5]) (by kernel_rfl) (by simp) ?_
            refine AllReadyH.cons rfl (fun K hK => ?_) AllReadyH.nil
            go_simp
            refine (has_s bo m dap old p _ HOd.out).mono ?_
            rintro e w5 ⟨rfl, rfl⟩
            rw [HM1.out]
            go_wp2_with fail
            refine hK.out _ _ ?_ (fun hHeld => ?_)
            · assumption
            clear hK K
            try simp only [Act.put, List.setIfInBounds_toArray, List.set_cons_zero, List.set_cons_succ]
            refine wpAnyH_take (i := 6) (oi := { dst := some 24, op := _, type := _, pos := _, after := _, guard := _ }) (v := ?_) rfl (by kernel_rfl) (by kernel_rfl) (by kernel_rfl) (fun _ _ _ h => h) (Or.inl ⟨by rfl, ?_⟩) (by assumption) ?_
            rotate_left
            · intro w hSw
              try dsimp only at hSw
              go_simp
              try with_reducible rfl
            try simp only [Act.put, List.setIfInBounds_toArray, List.set_cons_zero, List.set_cons_succ]
            refine wpAnyH_take (i := 7) (oi := { dst := some 25, op := _, type := _, pos := _, after := _, guard := _ }) (v := ?_) rfl (by kernel_rfl) (by kernel_rfl) (by kernel_rfl) (fun _ _ _ h => h) (Or.inl ⟨by rfl, ?_⟩) (by assumption) ?_
            rotate_left
            · intro w hSw
              try dsimp only at hSw
              go_simp
              try with_reducible rfl
            try simp only [Act.put, List.setIfInBounds_toArray, List.set_cons_zero, List.set_cons_succ]
            refine wpAnyH_take (i := 8) (oi := { dst := some 26, op := _, type := _, pos := _, after := _, guard := _ }) (v := ?_) rfl (by kernel_rfl) (by kernel_rfl) (by kernel_rfl) (fun _ _ _ h => h) (Or.inl ⟨by rfl, ?_⟩) (by assumption) ?_
            rotate_left
            · intro w hSw
              try dsimp only at hSw
              go_simp
              try with_reducible rfl
            try simp only [Act.put, List.setIfInBounds_toArray, List.set_cons_zero, List.set_cons_succ]
            refine wpAnyH_take (i := 9) (oi := { dst := some 27, op := _, type := _, pos := _, after := _, guard := _ }) (v := ?_) rfl (by kernel_rfl) (by kernel_rfl) (by kernel_rfl) (fun _ _ _ h => h) (Or.inl ⟨by rfl, ?_⟩) (by assumption) ?_
            rotate_left
            · intro w hSw
              try dsimp only at hSw
              go_simp
              try with_reducible rfl
            try simp only [Act.put, List.setIfInBounds_toArray, List.set_cons_zero, List.set_cons_succ]
            refine wpAnyH_take (i := 10) (oi := { dst := some 28, op := _, type := _, pos := _, after := _, guard := _ }) (v := ?_) rfl (by kernel_rfl) (by kernel_rfl) (by kernel_rfl) (fun _ _ _ h => h) (Or.inl ⟨by rfl, ?_⟩) (by assumption) ?_
            rotate_left
            · intro w hSw
              try dsimp only at hSw
              go_simp
              try with_reducible rfl
            try simp only [Act.put, List.setIfInBounds_toArray, List.set_cons_zero, List.set_cons_succ]
            refine wpAnyH_take (i := 11) (oi := { dst := some 29, op := _, type := _, pos := _, after := _, guard := _ }) (v := ?_) rfl (by kernel_rfl) (by kernel_rfl) (by kernel_rfl) (fun _ _ _ h => h) (Or.inl ⟨by rfl, ?_⟩) (by assumption) ?_
            rotate_left
            · intro w hSw
              try dsimp only at hSw
              go_simp
              try with_reducible rfl
            try simp only [Act.put, List.setIfInBounds_toArray, List.set_cons_zero, List.set_cons_succ]
            refine wpAnyH_take (i := 12) (oi := { dst := some 30, op := _, type := _, pos := _, after := _, guard := _ }) (v := ?_) rfl (by kernel_rfl) (by kernel_rfl) (by kernel_rfl) (fun _ _ _ h => h) (Or.inl ⟨by rfl, ?_⟩) (by assumption) ?_
            rotate_left
            · intro w hSw
              try dsimp only at hSw
              go_simp
              try with_reducible rfl
            try simp only [Act.put, List.setIfInBounds_toArray, List.set_cons_zero, List.set_cons_succ]
            refine wpAnyH_take (i := 13) (oi := { dst := some 31, op := _, type := _, pos := _, after := _, guard := _ }) (v := ?_) rfl (by kernel_rfl) (by kernel_rfl) (by kernel_rfl) (fun _ _ _ h => h) (Or.inl ⟨by rfl, ?_⟩) (by assumption) ?_
            rotate_left
            · intro w hSw
              try dsimp only at hSw
              go_simp
              try with_reducible rfl
            try simp only [Act.put, List.setIfInBounds_toArray, List.set_cons_zero, List.set_cons_succ]
            refine wpAnyH_ready (rs := [14]) (by kernel_rfl) (by simp) ?_
            refine AllReadyH.cons rfl (fun K hK => ?_) AllReadyH.nil
            go_simp
            refine (has_s _ j cap (vs.take j) p _ HCd.out).mono ?_
            rintro e w5 ⟨rfl, rfl⟩
            rw [HM2.out]
            go_wp2_with fail
            refine hK.out _ _ ?_ (fun hHeld => ?_)
            · assumption
            clear hK K
            try simp only [Act.put, List.setIfInBounds_toArray, List.set_cons_zero, List.set_cons_succ]
            refine wpAnyH_take (i := 15) (oi := { dst := some 33, op := _, type := _, pos := _, after := _, guard := _ }) (v := ?_) rfl (by kernel_rfl) (by kernel_rfl) (by kernel_rfl) (fun _ _ _ h => h) (Or.inl ⟨by rfl, ?_⟩) (by assumption) ?_
            rotate_left
            · intro w hSw
              try dsimp only at hSw
              go_simp
              try with_reducible rfl
            try simp only [Act.put, List.setIfInBounds_toArray, List.set_cons_zero, List.set_cons_succ]
            refine wpAnyH_done (by kernel_rfl) ?_ _
            go_wp2_with fail
            go_ret
            exact ⟨by rw [HR.out]; rfl, HB.out.drew⟩
          | false =>
            have HZ := Lib.hid (show errV vs old j = 0 by rw [HE.out]; simp)
            have HB2 := Lib.hid HB.out.drew
            go_wp2_with (go_at_call 55; refine (rClean_s p _ (by omega)).mono ?_; rintro e w' ⟨rfl, rfl⟩; rw [HCL.out])
            refine wp_region_held_drew (S := fun W => W.cell? ⟨b, off + j, none⟩ = some (.string p)) (by kernel_rfl) (hcell) (fun hS => ?_)
            refine wpAnyH_take (i := 0) (oi := { dst := some 18, op := _, type := _, pos := _, after := _, guard := _ }) (v := ?_) rfl (by kernel_rfl) (by kernel_rfl) (by kernel_rfl) (fun _ _ _ h => h) (Or.inl ⟨by rfl, ?_⟩) (by assumption) ?_
            rotate_left
            · intro w hSw
              try dsimp only at hSw
              go_simp
              try with_reducible rfl
            try simp only [Act.put, List.setIfInBounds_toArray, List.set_cons_zero, List.set_cons_succ]
            refine wpAnyH_take (i := 1) (oi := { dst := some 19, op := _, type := _, pos := _, after := _, guard := _ }) (v := ?_) rfl (by kernel_rfl) (by kernel_rfl) (by kernel_rfl) (fun _ _ _ h => h) (Or.inl ⟨by rfl, ?_⟩) (by assumption) ?_
            rotate_left
            · intro w hSw
              try dsimp only at hSw
              go_simp
              try with_reducible rfl
            try simp only [Act.put, List.setIfInBounds_toArray, List.set_cons_zero, List.set_cons_succ]
            refine wpAnyH_take (i := 2) (oi := { dst := some 20, op := _, type := _, pos := _, after := _, guard := _ }) (v := ?_) rfl (by kernel_rfl) (by kernel_rfl) (by kernel_rfl) (fun _ _ _ h => h) (Or.inl ⟨by rfl, ?_⟩) (by assumption) ?_
            rotate_left
            · intro w hSw
              try dsimp only at hSw
              go_simp
              try with_reducible rfl
            try simp only [Act.put, List.setIfInBounds_toArray, List.set_cons_zero, List.set_cons_succ]
            refine wpAnyH_take (i := 3) (oi := { dst := some 21, op := _, type := _, pos := _, after := _, guard := _ }) (v := ?_) rfl (by kernel_rfl) (by kernel_rfl) (by kernel_rfl) (fun _ _ _ h => h) (Or.inl ⟨by rfl, ?_⟩) (by assumption) ?_
            rotate_left
            · intro w hSw
              try dsimp only at hSw
              go_simp
              try with_reducible rfl
            try simp only [Act.put, List.setIfInBounds_toArray, List.set_cons_zero, List.set_cons_succ]
            refine wpAnyH_take (i := 4) (oi := { dst := some 22, op := _, type := _, pos := _, after := _, guard := _ }) (v := ?_) rfl (by kernel_rfl) (by kernel_rfl) (by kernel_rfl) (fun _ _ _ h => h) (Or.inl ⟨by rfl, ?_⟩) (by assumption) ?_
            rotate_left
            · intro w hSw
              try dsimp only at hSw
              go_simp
              try with_reducible rfl
            try simp only [Act.put, List.setIfInBounds_toArray, List.set_cons_zero, List.set_cons_succ]
            refine wpAnyH_ready (rs := [5]) (by kernel_rfl) (by simp) ?_
            refine AllReadyH.cons rfl (fun K hK => ?_) AllReadyH.nil
            go_simp
            refine (has_s bo m dap old p _ HOd.out).mono ?_
            rintro e w5 ⟨rfl, rfl⟩
            rw [HM1.out]
            go_wp2_with fail
            refine hK.out _ _ ?_ (fun hHeld => ?_)
            · assumption
            clear hK K
            try simp only [Act.put, List.setIfInBounds_toArray, List.set_cons_zero, List.set_cons_succ]
            refine wpAnyH_take (i := 6) (oi := { dst := some 24, op := _, type := _, pos := _, after := _, guard := _ }) (v := ?_) rfl (by kernel_rfl) (by kernel_rfl) (by kernel_rfl) (fun _ _ _ h => h) (Or.inl ⟨by rfl, ?_⟩) (by assumption) ?_
            rotate_left
            · intro w hSw
              try dsimp only at hSw
              go_simp
              try with_reducible rfl
            try simp only [Act.put, List.setIfInBounds_toArray, List.set_cons_zero, List.set_cons_succ]
            refine wpAnyH_take (i := 7) (oi := { dst := some 25, op := _, type := _, pos := _, after := _, guard := _ }) (v := ?_) rfl (by kernel_rfl) (by kernel_rfl) (by kernel_rfl) (fun _ _ _ h => h) (Or.inl ⟨by rfl, ?_⟩) (by assumption) ?_
            rotate_left
            · intro w hSw
              try dsimp only at hSw
              go_simp
              try with_reducible rfl
            try simp only [Act.put, List.setIfInBounds_toArray, List.set_cons_zero, List.set_cons_succ]
            refine wpAnyH_take (i := 8) (oi := { dst := some 26, op := _, type := _, pos := _, after := _, guard := _ }) (v := ?_) rfl (by kernel_rfl) (by kernel_rfl) (by kernel_rfl) (fun _ _ _ h => h) (Or.inl ⟨by rfl, ?_⟩) (by assumption) ?_
            rotate_left
            · intro w hSw
              try dsimp only at hSw
              go_simp
              try with_reducible rfl
            try simp only [Act.put, List.setIfInBounds_toArray, List.set_cons_zero, List.set_cons_succ]
            refine wpAnyH_take (i := 9) (oi := { dst := some 27, op := _, type := _, pos := _, after := _, guard := _ }) (v := ?_) rfl (by kernel_rfl) (by kernel_rfl) (by kernel_rfl) (fun _ _ _ h => h) (Or.inl ⟨by rfl, ?_⟩) (by assumption) ?_
            rotate_left
            · intro w hSw
              try dsimp only at hSw
              go_simp
              try with_reducible rfl
            try simp only [Act.put, List.setIfInBounds_toArray, List.set_cons_zero, List.set_cons_succ]
            refine wpAnyH_take (i := 10) (oi := { dst := some 28, op := _, type := _, pos := _, after := _, guard := _ }) (v := ?_) rfl (by kernel_rfl) (by kernel_rfl) (by kernel_rfl) (fun _ _ _ h => h) (Or.inl ⟨by rfl, ?_⟩) (by assumption) ?_
            rotate_left
            · intro w hSw
              try dsimp only at hSw
              go_simp
              try with_reducible rfl
            try simp only [Act.put, List.setIfInBounds_toArray, List.set_cons_zero, List.set_cons_succ]
            refine wpAnyH_take (i := 11) (oi := { dst := some 29, op := _, type := _, pos := _, after := _, guard := _ }) (v := ?_) rfl (by kernel_rfl) (by kernel_rfl) (by kernel_rfl) (fun _ _ _ h => h) (Or.inl ⟨by rfl, ?_⟩) (by assumption) ?_
            rotate_left
            · intro w hSw
              try dsimp only at hSw
              go_simp
              try with_reducible rfl
            try simp only [Act.put, List.setIfInBounds_toArray, List.set_cons_zero, List.set_cons_succ]
            refine wpAnyH_take (i := 12) (oi := { dst := some 30, op := _, type := _, pos := _, after := _, guard := _ }) (v := ?_) rfl (by kernel_rfl) (by kernel_rfl) (by kernel_rfl) (fun _ _ _ h => h) (Or.inl ⟨by rfl, ?_⟩) (by assumption) ?_
            rotate_left
            · intro w hSw
              try dsimp only at hSw
              go_simp
              try with_reducible rfl
            try simp only [Act.put, List.setIfInBounds_toArray, List.set_cons_zero, List.set_cons_succ]
            refine wpAnyH_take (i := 13) (oi := { dst := some 31, op := _, type := _, pos := _, after := _, guard := _ }) (v := ?_) rfl (by kernel_rfl) (by kernel_rfl) (by kernel_rfl) (fun _ _ _ h => h) (Or.inl ⟨by rfl, ?_⟩) (by assumption) ?_
            rotate_left
            · intro w hSw
              try dsimp only at hSw
              go_simp
              try with_reducible rfl
            try simp only [Act.put, List.setIfInBounds_toArray, List.set_cons_zero, List.set_cons_succ]
            refine wpAnyH_ready (rs := [14]) (by kernel_rfl) (by simp) ?_
            refine AllReadyH.cons rfl (fun K hK => ?_) AllReadyH.nil
            go_simp
            refine (has_s _ j cap (vs.take j) p _ HCd.out).mono ?_
            rintro e w5 ⟨rfl, rfl⟩
            rw [HM2.out]
            go_wp2_with fail
            refine hK.out _ _ ?_ (fun hHeld => ?_)
            · assumption
            clear hK K
            try simp only [Act.put, List.setIfInBounds_toArray, List.set_cons_zero, List.set_cons_succ]
            refine wpAnyH_take (i := 15) (oi := { dst := some 33, op := _, type := _, pos := _, after := _, guard := _ }) (v := ?_) rfl (by kernel_rfl) (by kernel_rfl) (by kernel_rfl) (fun _ _ _ h => h) (Or.inl ⟨by rfl, ?_⟩) (by assumption) ?_
            rotate_left
            · intro w hSw
              try dsimp only at hSw
              go_simp
              try with_reducible rfl
            try simp only [Act.put, List.setIfInBounds_toArray, List.set_cons_zero, List.set_cons_succ]
            refine wpAnyH_done (by kernel_rfl) ?_ _
            go_wp2_with fail
            go_roundw
            case rel =>
              refine ⟨j + 1, by omega, by go_num, Lib.hid fun q hq => ?_, HB2⟩
              by_cases e : q = j
              · rw [e]; exact HZ.out
              · exact HA.out q (by omega)
            case measure => simp [intOf]; omega
    · obtain rfl : j = vs.length := by omega
      have HR := Lib.hid (show chkV vs old = 0 from firstE_zero HA.out)
      go_wp2_with fail
      go_ret
      exact ⟨by rw [HR.out]; rfl, HB.out⟩

end Go.Proofs.YtclfjdnemafmeaaGreatDoor
end

section
/-
  Contract of attrs.Sorted: the normal form, each part of it the call's own. Condition: at most 1000 attributes with at most 100000 values together, strings of at most 1000000 bytes.
-/
set_option maxRecDepth 100000
set_option linter.unusedVariables false
set_option linter.unusedSimpArgs false
set_option linter.unnecessarySimpa false
namespace Go.Proofs.YtclfjdnemafmeaaGreatDoor
open Go.RowKit Go.PlainAid Go.Maps Go.ChangeMaps

theorem sumV_mem {a : At} : ∀ {l : List At}, a ∈ l → a.2.length ≤ sumV l
  | x :: l, h => by
    rw [sumV_cons]
    rcases List.mem_cons.1 h with k | k
    · rw [k]; omega
    · have := sumV_mem k; omega
theorem kept_low {w w' : World} {base Bk size n : Nat} {e : TypeId} {x : Value} {xs : List Value} {row : Option Nat} (h : w.ownsRow base e size x n xs) (hx : ∀ g, x.ownBlock = some g → g < Bk) (hv : ∀ g, row = some g → Bk ≤ g) (hg : w.grownBy w' row) : w'.ownsRow base e size x n xs :=
  h.kept hg (by
    cases hb : x.ownBlock with
    | none => exact .inl rfl
    | some g => exact .inr fun e => by have := hx g hb; have := hv g e.symm; omega)
/-- the heads of the slices under the keys, whatever the slices hold -/
structure GMap (w : World) (b n : Nat) (D : DataW Unit) (hv : ByteArray → Value) : Prop where
  map : w.ownsMap Tryz.prog 9 hdrE b n D
  reads : ∀ k, hdrE (H := Unit) (hv k) = some (D.atKey (klit k) .nil, [])
theorem GMap.look {w : World} {b n : Nat} {D : DataW Unit} {hv : ByteArray → Value} (G : GMap w b n D hv) (k : ByteArray) (hk : k.size ≤ maxLen) :
    (Instr.lookup 171 (.map (some b)) (.string k) false).run Tryz.prog w = .ok (hv k) w := by
  obtain ⟨v, ps, hrun, hv'⟩ := G.map.lookup (t := 171) (e := 36) (string_keyed Tryz.underlying9) Tryz.underlying171 (z := .slice none 0 0) (Tryz.zeroValue36 _) hdrE_nil (klit_key k hk)
  rw [hrun, hdrE_one hv' (G.reads k)]
theorem GMap.kept {w w' : World} {b n : Nat} {D : DataW Unit} {hv : ByteArray → Value} {row : Option Nat} (G : GMap w b n D hv) (hg : w.grownBy w' row) (hne : some b ≠ row) : GMap w' b n D hv := ⟨G.map.kept hg hne, G.reads⟩
theorem GMap.below {w w' : World} {b n : Nat} {D : DataW Unit} {hv : ByteArray → Value} (G : GMap w b n D hv) (hb : Below w.heap.size w w') : GMap w' b n D hv :=
  G.kept (row := none) ⟨hb.os, hb.tape, hb.output, hb.size, fun k hk _ => hb.block k hk⟩ (by simp)
/-- what loop 2 has behind the keys K: T, in the rows that the keys' slices lie in -/
structure Done (w : World) (base : Nat) (hv : ByteArray → Value) (K : List ByteArray) (T : List Tr) : Prop where
  own : ∀ t ∈ T, w.ownsRow base 9 1 t.2.1 t.2.2.length (scells t.2.2) ∧ t.2.1.ownBlock = (hv t.1).ownBlock
  keys : ∀ t ∈ T, t.1 ∈ K
def nfK (l : List At) (K : List ByteArray) : List At := (K.filter fun n => !(vals l n).isEmpty).map fun n => (n, vals l n)
theorem nfK_snoc (l : List At) (K : List ByteArray) (n : ByteArray) : nfK l (K ++ [n]) = nfK l K ++ (if vals l n = [] then [] else [(n, vals l n)]) := by
  unfold nfK
  rw [List.filter_append, List.map_append]
  congr 1
  by_cases h : vals l n = []
  · simp [h]
  · simp [h]
theorem lowN_names {l : List At} {n : ByteArray} (h : n ∈ names l) : n ∈ lowN l := by
  obtain ⟨v, a, ha, e, _⟩ := names_mem.1 h
  unfold lowN
  exact List.mem_map.2 ⟨a, ha, e⟩
theorem nfK_all (l : List At) : nfK l (sortU (lowN l)) = nf l := by
  unfold nfK nf
  congr 1
  refine asc_ext (List.Pairwise.sublist List.filter_sublist (sortU_asc _)) (names_asc l) fun n => ?_
  rw [List.mem_filter, sortU_mem]
  constructor
  · rintro ⟨_, h⟩
    exact names_vals.2 (by intro e; rw [e] at h; simp at h)
  · intro h
    exact ⟨lowN_names h, by have := names_vals.1 h; simpa using this⟩
theorem sortU_lowN_len (l : List At) : (sortU (lowN l)).length ≤ l.length := by
  refine Nat.le_trans (sortU_len _) ?_
  unfold lowN; rw [List.length_map]; exact Nat.le_refl _
/-- the values' slices lie apart -/
def TApart (T : List Tr) : Prop := T.Pairwise fun s t => s.2.1.ownBlock = none ∨ s.2.1.ownBlock ≠ t.2.1.ownBlock
theorem Done.apart {w : World} {base : Nat} {hv : ByteArray → Value} {K : List ByteArray} {T : List Tr} (h : Done w base hv K T) (hT : Asc ((tats T).map (·.1))) (hap : ∀ k k', k ≠ k' → (hv k).ownBlock = none ∨ (hv k).ownBlock ≠ (hv k').ownBlock) : TApart T := by
  unfold TApart
  unfold Asc tats at hT
  rw [List.map_map, List.pairwise_map] at hT
  refine List.Pairwise.imp_of_mem (fun {s t} hs ht k => ?_) hT
  rw [(h.own s hs).2, (h.own t ht).2]
  exact hap _ _ (cs_ne k)

theorem own_strs {w : World} {base n cap : Nat} {ao : Option Addr} {l : List ByteArray} (h : w.ownsRow base 9 1 (.slice ao n cap) n (scells l)) (hn : l.length = n) : StrsAt w ao n cap l := by
  obtain ⟨ao', cap', e, hs⟩ := strs_own h hn
  cases e
  exact hs
theorem part_ne {K : List ByteArray} (h : Asc K) {i j : Nat} (hi : i < K.length) (hj : j < K.length) (hne : i ≠ j) : partAt K i ≠ partAt K j := by
  have e : ∀ q, (hq : q < K.length) → partAt K q = K[q] := fun q hq => by unfold partAt; rw [List.getD_eq_getElem?_getD, List.getElem?_eq_getElem hq]; rfl
  have h' := List.pairwise_iff_getElem.1 h
  rw [e i hi, e j hj]
  rcases Nat.lt_or_gt_of_ne hne with k | k
  · exact cs_ne (h' i j hi hj k)
  · exact (cs_ne (h' j i hj hi k)).symm
theorem take_ne {K : List ByteArray} (h : Asc K) {k : Nat} (hk : k < K.length) {x : ByteArray} (hx : x ∈ K.take k) : x ≠ partAt K k := by
  obtain ⟨i, hi, rfl⟩ := List.mem_take_iff_getElem.1 hx
  have : K[i] = partAt K i := by unfold partAt; rw [List.getD_eq_getElem?_getD, List.getElem?_eq_getElem (by omega)]; rfl
  rw [this]
  exact part_ne h (by omega) hk (by omega)
theorem Done.kept {w w' : World} {base : Nat} {hv : ByteArray → Value} {K : List ByteArray} {T : List Tr} {row : Option Nat} (h : Done w base hv K T) (hg : w.grownBy w' row) (hne : ∀ x ∈ K, (hv x).ownBlock = none ∨ (hv x).ownBlock ≠ row) : Done w' base hv K T :=
  ⟨fun t ht => ⟨(h.own t ht).1.kept hg (by rw [(h.own t ht).2]; exact hne _ (h.keys t ht)), (h.own t ht).2⟩, h.keys⟩
theorem Done.below {w w' : World} {base : Nat} {hv : ByteArray → Value} {K : List ByteArray} {T : List Tr} (h : Done w base hv K T) (hb : Below w.heap.size w w') : Done w' base hv K T := ⟨fun t ht => ⟨own_below (h.own t ht).1 hb, (h.own t ht).2⟩, h.keys⟩
theorem Done.more {w : World} {base : Nat} {hv : ByteArray → Value} {K K' : List ByteArray} {T : List Tr} (h : Done w base hv K T) (hk : ∀ x ∈ K, x ∈ K') : Done w base hv K' T := ⟨h.own, fun t ht => hk _ (h.keys t ht)⟩
theorem Done.snoc {w : World} {base : Nat} {hv : ByteArray → Value} {K : List ByteArray} {T : List Tr} (h : Done w base hv K T) {t : Tr} (h1 : w.ownsRow base 9 1 t.2.1 t.2.2.length (scells t.2.2)) (h2 : t.2.1.ownBlock = (hv t.1).ownBlock) (h3 : t.1 ∈ K) : Done w base hv K (T ++ [t]) :=
  ⟨fun u hu => (List.mem_append.1 hu).elim (h.own u) fun k => by rw [List.mem_singleton.1 k]; exact ⟨h1, h2⟩, fun u hu => (List.mem_append.1 hu).elim (h.keys u) fun k => by rw [List.mem_singleton.1 k]; exact h3⟩
theorem not_block {a row : Option Nat} {Bk : Nat} (hx : ∀ g, a = some g → g < Bk) (hv : ∀ g, row = some g → Bk ≤ g) : a = none ∨ a ≠ row := by
  cases a with
  | none => exact .inl rfl
  | some g => exact .inr fun e => by have := hx g rfl; have := hv g e.symm; omega
theorem not_block' {a row : Option Nat} {Bk : Nat} (hx : ∀ g, a = some g → Bk ≤ g) (hv : ∀ g, row = some g → g < Bk) : a = none ∨ a ≠ row := by
  cases a with
  | none => exact .inl rfl
  | some g => exact .inr fun e => by have := hx g rfl; have := hv g e.symm; omega
set_option maxRecDepth 100000 in
set_option maxHeartbeats 8000000 in
theorem sorted_s (ao : Option Addr) (n cap : Nat) (l : List At) (w : World) (h : AttrsAt w ao n cap l) (hF : Few l) :
    Calls Tryz.prog 141 #[.slice ao n cap] w fun e w' => ∃ v T, e = .returned v ∧ tats T = nf l ∧ TOwn w' w.heap.size v T ∧ TApart T ∧ w'.ownsRow w.heap.size 64 2 v T.length (tcells T) ∧ Below w.heap.size w w' := by
  obtain ⟨h1, h2, h3, h4⟩ := h
  subst h1
  unfold maxLen at h3
  have H4 := Lib.hid h4; clear h4
  have HS := Lib.hid hF.small
  have HV := Lib.hid hF.vals
  have hn := hF.len
  clear hF
  have hB0 : Below w.heap.size w (w.alloc (.map #[] 0)) := (Below.refl _ _).alloc (Nat.le_refl _) _
  have U0 := united_made w
  have hmm := @run_makeMap Tryz.prog
  go_enter Tryz.func141, Tryz.ntmps141
  go_wp2
  clear hmm
  go_loopw [5, 6, 14] (fun s5 s6 i wr => ∃ (j : Nat) (D : DataW Unit) (hv : ByteArray → Value), j ≤ l.length ∧ i = .int .i64 j ∧ Hid (United wr w.heap.size j D (l.take j) hv) ∧ Hid (Below w.heap.size w wr)) (fun _ _ i _ => l.length - (intOf i).toNat)
  case atStart => exact ⟨0, _, _, Nat.zero_le _, rfl, Lib.hid U0, Lib.hid hB0⟩
  case round =>
    obtain ⟨j, D, hv, hj, rfl, HU, HB⟩ := hrel
    by_cases hlt : j < l.length
    · obtain ⟨b, off, rfl, hblt, hat⟩ := H4.out (by omega)
      obtain ⟨c0, vo, vn, vc, c1, hvs0⟩ := hat j hlt
      have c0 := cell_later HB.out c0
      have c1 := cell_later HB.out c1
      obtain ⟨a, ha⟩ : ∃ x, atD l j = x := ⟨_, rfl⟩
      have hsz := HS.out _ (at_mem l j hlt)
      have hfw := Nat.le_trans (sumV_mem (at_mem l j hlt)) HV.out
      have HT := Lib.hid (show l.take (j + 1) = l.take j ++ [a] by rw [at_take l j hlt, ha])
      rw [ha] at c0 hsz hfw hvs0
      clear ha hat
      obtain ⟨nm, hnm⟩ : ∃ x, a.1 = x := ⟨_, rfl⟩
      have hns := hsz.1
      rw [hnm] at c0 hns
      have HVV := Lib.hid hvs0
      have hvl : a.2.length = vn := hvs0.1
      have d1 : (j : Int) < (l.length : Int) := by omega
      have HNM := Lib.hid hnm
      clear hsz hvs0 hnm
      go_wp2_with fail
      obtain ⟨W1, hW1⟩ : ∃ W1, wr.alloc (.cells #[.string nm, .slice vo vn vc] 64) = W1 := ⟨_, rfl⟩
      have hbl1 : Below wr.heap.size wr W1 := by rw [← hW1]; exact (Below.refl _ wr).alloc (Nat.le_refl _) _
      have X1 : ABox W1 wr.heap.size nm (.slice vo vn vc) := by rw [← hW1]; exact abox_new wr nm _
      have HB1 := Lib.hid (HB.out.trans (hbl1.mono HB.out.size))
      have HU1 := Lib.hid (HU.out.below hbl1)
      rw [hW1]
      clear hW1
      refine (lower_s nm W1 (by omega)).mono ?_
      rintro e W2 ⟨rfl, hb⟩
      obtain ⟨b0, b1⟩ := (X1.below hb).cells
      have HB2 := Lib.hid (HB1.out.trans (hb.mono HB1.out.size))
      have HU2 := Lib.hid (HU1.out.below hb)
      have HV2 := Lib.hid (HVV.out.below HB2.out)
      obtain ⟨lw, hlw⟩ : ∃ x, lowS nm = x := ⟨_, rfl⟩
      have hls : lw.size ≤ 1000000 := by rw [← hlw, lowS_size]; omega
      rw [hlw]
      have HLW := Lib.hid (show lowS a.1 = lw by rw [HNM.out, hlw])
      clear hlw hb X1 hbl1 HU1 HB1
      have hlook := HU2.out.grp.look lw (by unfold maxLen; omega)
      have hown := HU2.out.grp.own lw
      have hlen : (allV (l.take j) lw).length ≤ 100000 := Nat.le_trans (allV_small l j lw) HV.out
      obtain ⟨v0, hv0⟩ : ∃ x, hv lw = x := ⟨_, rfl⟩
      have HW0 := Lib.hid hv0
      rw [hv0] at hlook hown
      clear hv0
      go_wp2_with (at_builtin; go_must (refine push_strs W2 hown (.tmp 25) (.tmp 27) HV2.out ?_ ?_ ?_ ?_ ?_ ?_ ?_; exact rfl; exact rfl; exact rfl; exact rfl; omega; (have := HB2.out.size; have := HU2.out.grp.map.lt; omega); intro v3 W3 hown3 hg3 hl3; have HB3 := Lib.hid (HB2.out.grown hg3 HB2.out.size (fun q hq => by have := (hown.lt q hq).1; omega)); obtain ⟨W4, D4, hv4, hrun4, hU4, hg4⟩ := HU2.out.store a HLW.out (by unfold maxLen; omega) (by unfold maxLen; omega) (by rw [HW0.out]; exact hg3) (by rw [hvl]; exact hown3) (by rw [HW0.out]; exact hl3); have HU4 := Lib.hid hU4; have HB4 := Lib.hid (HB3.out.grown hg4 HB3.out.size (fun q hq => by cases hq; exact Nat.le_refl _)); clear hU4 hg4))
      go_roundw
      case rel => exact ⟨j + 1, D4, hv4, by omega, by go_num, by rw [HT.out]; exact HU4, HB4⟩
      case measure => simp [intOf]; omega
    · obtain rfl : l.length = j := by omega
      rw [List.take_length] at HU
      have HKS := Lib.hid (keys_s (some w.heap.size) wr)
      have HSK := Lib.hid (sorted_keys w.heap.size l.length D hdrE wr HU.out.grp.map (Nat.le_trans HU.out.grp.map.size_le (by omega)))
      have HKE := Lib.hid (fun (ss : List (List UInt8)) hp => keys_sorted (ks := lowN l) (ss := ss) HU.out.grp.map HU.out.keys hp)
      obtain ⟨wa, hwa⟩ : ∃ x, x = wr := ⟨_, rfl⟩
      subst hwa
      obtain ⟨K, hK⟩ : ∃ x, sortU (lowN l) = x := ⟨_, rfl⟩
      have hKl : K.length ≤ 1000 := by rw [← hK]; have := sortU_lowN_len l; omega
      have HKA := Lib.hid (show Asc K by rw [← hK]; exact sortU_asc _)
      have HKM := Lib.hid (fun x (hx : x ∈ K) => (show x.size ≤ 1000000 by
        rw [← hK, sortU_mem] at hx
        unfold lowN at hx
        obtain ⟨a, ha, rfl⟩ := List.mem_map.1 hx
        exact lowS_small (HS.out a ha).1))
      have HNK := Lib.hid (show nfK l K = nf l by rw [← hK]; exact nfK_all l)
      rw [hK] at HKE
      clear hK
      go_wp2_with fail
      refine HKS.out.mono ?_
      rintro e w1 ⟨rfl, rfl⟩
      go_wp2_with fail
      refine HSK.out.mono ?_
      rintro e w2 ⟨kv, ss, rfl, hp, hkown, hb⟩
      have hke := HKE.out ss hp
      have hsl : ss.length = K.length := by rw [← hke, List.length_map]; exact (List.mergeSort_perm ss _).length_eq.symm
      rw [hke, hsl] at hkown
      have HB2a : Hid (Below (wa.heap.size + 1) (wa.alloc (.cells #[.map (some w.heap.size)] 171)) w2) := Lib.hid hb
      have HB2b := Lib.hid (((Below.refl wa.heap.size wa).alloc (Nat.le_refl _) (.cells #[.map (some w.heap.size)] 171)).trans (hb.mono (Nat.le_succ _)))
      clear hke hp hb HSK HKS HKE
      obtain ⟨ko, kcap, rfl, hks⟩ := strs_own hkown rfl
      have hkc : kcap ≤ 9223372036854775807 := hks.2.2.1
      clear hks
      have hbs : wa.heap.size ≤ w2.heap.size := HB2b.out.size
      have HLT := Lib.hid (fun x g (e : (hv x).ownBlock = some g) => ((HU.out.grp.own x).lt g e).2)
      have HAP := Lib.hid HU.out.grp.apart
      have HG0 : Hid (GMap w2 w.heap.size l.length D hv) := Lib.hid (GMap.below ⟨HU.out.grp.map, HU.out.grp.reads⟩ HB2b.out)
      have HO0 := Lib.hid (fun x => own_below (HU.out.grp.own x) HB2b.out)
      have HB0 : Hid (Below w.heap.size w w2 ∧ w2.heap.size ≤ w2.heap.size) := Lib.hid ⟨HB.out.trans (HB2b.out.mono HB.out.size), Nat.le_refl _⟩
      have hwa : w.heap.size < wa.heap.size := HU.out.grp.map.lt
      have HKO0 := Lib.hid (fun g (e : (Value.slice ko K.length kcap).ownBlock = some g) => (hkown.lt g e).2)
      have HKO := Lib.hid hkown
      clear hkown HU HB HB2a HB2b
      go_wp2_with fail
      go_loopw [7, 9, 10, 34] (fun v s9 s10 iv wr => ∃ (k : Nat) (T : List Tr), k ≤ K.length ∧ iv = .int .i64 k ∧ T.length ≤ k ∧ Hid (tats T = nfK l (K.take k)) ∧ Hid (Done wr (w.heap.size + 1) hv (K.take k) T) ∧ Hid (∀ j, k ≤ j → j < K.length → wr.ownsRow (w.heap.size + 1) 9 1 (hv (partAt K j)) (allV l (partAt K j)).length (scells (allV l (partAt K j)))) ∧ Hid (GMap wr w.heap.size l.length D hv) ∧ Hid (wr.ownsRow (wa.heap.size + 1) 9 1 (.slice ko K.length kcap) K.length (scells K)) ∧ wr.ownsRow w2.heap.size 64 2 v T.length (tcells T) ∧ Hid (Below w.heap.size w wr ∧ w2.heap.size ≤ wr.heap.size)) (fun _ _ _ iv _ => K.length - (intOf iv).toNat)
      case atStart => exact ⟨0, [], Nat.zero_le _, rfl, Nat.le_refl _, Lib.hid rfl, Lib.hid ⟨fun t ht => (List.not_mem_nil ht).elim, fun t ht => (List.not_mem_nil ht).elim⟩, Lib.hid (fun j _ _ => HO0.out _), HG0, HKO, World.ownsRow_nil _ _ _ _, HB0⟩
      case round =>
        obtain ⟨k, T, hk, rfl, hTk, HT, HD, HO, HG, HKO, hown, HBB⟩ := hrel
        by_cases hlt : k < K.length
        · have hKS := own_strs HKO.out rfl
          obtain ⟨kb, koff, rfl, hs⟩ := hKS.2.2.2 (by omega)
          have hcell := hs.2 k hlt
          have HNE := Lib.hid (fun x (hx : x ∈ K.take k) => take_ne HKA.out hlt hx)
          have HNJ := Lib.hid (fun j (hj : k + 1 ≤ j) (hjl : j < K.length) => part_ne HKA.out hjl hlt (by omega))
          have HTS := Lib.hid (show K.take (k + 1) = K.take k ++ [partAt K k] from take_snoc K k hlt)
          have hownk := HO.out k (Nat.le_refl _) hlt
          have hns := HKM.out _ (part_mem K k hlt)
          have HNK1 := Lib.hid (show nfK l (K.take (k + 1)) = nfK l (K.take k) ++ (if vals l (partAt K k) = [] then [] else [(partAt K k, vals l (partAt K k))]) by rw [HTS.out, nfK_snoc])
          obtain ⟨nm, hnm⟩ : ∃ x, partAt K k = x := ⟨_, rfl⟩
          rw [hnm] at hcell HNE HNJ HTS hownk hns HNK1
          have hlook := HG.out.look nm (by unfold maxLen; omega)
          clear hnm hs hKS
          have hlen : (allV l nm).length ≤ 100000 := Nat.le_trans (allV_len nm l) HV.out
          have HLK := Lib.hid (fun g e => HLT.out nm g e)
          have HAK := Lib.hid (fun x (hx : x ≠ nm) => HAP.out x nm hx)
          obtain ⟨v0, hv0⟩ : ∃ x, hv nm = x := ⟨_, rfl⟩
          have HW0 := Lib.hid hv0
          rw [hv0] at hlook hownk HLK HAK
          clear hv0
          have d1 : (k : Int) < (K.length : Int) := by omega
          go_wp2_with fail
          refine (ascending_s (w.heap.size + 1) _ v0 (allV l nm) wr hownk rfl (by omega)).mono ?_
          rintro e w5 ⟨u, rfl, hu, hg, hub⟩
          have hu' : w5.ownsRow (w.heap.size + 1) 9 1 u (vals l nm).length (scells (vals l nm)) := hu
          have hlow : ∀ g, v0.ownBlock = some g → g < w2.heap.size := fun g e => Nat.lt_of_lt_of_le (HLK.out g e) hbs
          have HD5 := Lib.hid (HD.out.kept hg fun x hx => HAK.out x (HNE.out x hx))
          have HO5 := Lib.hid (fun j (hj : k + 1 ≤ j) (hjl : j < K.length) => (HO.out j (by omega) hjl).kept hg (HAK.out _ (HNJ.out j hj hjl)))
          have HG5 := Lib.hid (HG.out.kept hg (fun e => by have := (hownk.lt _ e.symm).1; omega))
          have HKO5 := Lib.hid (HKO.out.kept hg (not_block' (fun g e => (HKO.out.lt g e).1) (fun g e => Nat.lt_succ_of_lt (HLK.out g e))))
          have hown5 := hown.kept hg (not_block' (fun g e => (hown.lt g e).1) hlow)
          have HBB5 : Hid (Below w.heap.size w w5 ∧ w2.heap.size ≤ w5.heap.size) := Lib.hid ⟨HBB.out.1.grown hg HBB.out.1.size (fun q hq => by have := (hownk.lt q hq).1; omega), Nat.le_trans HBB.out.2 hg.size⟩
          clear hu HD HO HG HKO hown HBB hownk hlook hg
          obtain ⟨n, hn'⟩ : ∃ x, (vals l nm).length = x := ⟨_, rfl⟩
          rw [hn'] at hu'
          obtain ⟨uo, uc, rfl, hus⟩ := strs_own hu' hn'
          by_cases h0 : n = 0
          · have HT2 := Lib.hid (show tats T = nfK l (K.take (k + 1)) by rw [HNK1.out, if_pos (List.length_eq_zero_iff.1 (by omega)), List.append_nil]; exact HT.out)
            have HD6 := Lib.hid (HD5.out.more (K' := K.take (k + 1)) fun x hx => by rw [HTS.out]; exact List.mem_append_left _ hx)
            have d2 : decide ((0 : Int) < (n : Int)) = false := decide_eq_false (by omega)
            go_wp2_with fail
            go_roundw
            case rel => exact ⟨k + 1, T, by omega, by go_num, by omega, HT2, HD6, HO5, HG5, HKO5, hown5, HBB5⟩
            case measure => simp [intOf]; omega
          · have HT2 := Lib.hid (show tats (T ++ [(nm, .slice uo n uc, vals l nm)]) = nfK l (K.take (k + 1)) by rw [HNK1.out, if_neg (fun e => h0 (by rw [← hn', e]; rfl)), tats_append, HT.out]; rfl)
            have d2 : decide ((0 : Int) < (n : Int)) = true := decide_eq_true (by omega)
            have HHd : Hid (Hdr w5 (.slice uo n uc) (vals l nm)) := Lib.hid ⟨uo, n, uc, rfl, hus⟩
            have hsz6 := HBB5.out.2
            have hsz7 := HBB5.out.1.size
            have HD6 := Lib.hid ((HD5.out.more (K' := K.take (k + 1)) fun x hx => by rw [HTS.out]; exact List.mem_append_left _ hx).snoc (t := (nm, .slice uo n uc, vals l nm)) (by rw [hn']; exact hu') (by rw [HW0.out]; exact hub) (by rw [HTS.out]; simp))
            clear hus
            go_wp2_with (at_builtin; go_must (refine app_attrs (w5.alloc (.cells #[.string nm, .slice uo n uc] 64)) (hown5.alloc _) (.tmp 45) (.tmp 49) _ 1 1 [(nm, .slice uo n uc, vals l nm)] ?_ ?_ ?_ ?_ (ts_new1 w5 (nm, .slice uo n uc, vals l nm)) ?_ ?_ ?_ ?_; exact rfl; exact rfl; exact rfl; exact rfl; exact (fun t ht => by rw [List.mem_singleton.1 ht]; exact HHd.out.below ((Below.refl _ w5).alloc (Nat.le_refl _) _)); omega; (simp; omega); intro v7 w7 hown7 hg7 hl7))
            have hba : Below w5.heap.size w5 (w5.alloc (.cells #[.string nm, .slice uo n uc] 64)) := (Below.refl _ w5).alloc (Nat.le_refl _) _
            have hrow := fun g e => (hown5.lt g e).1
            have HD7 := Lib.hid ((HD6.out.below hba).kept hg7 (fun x hx => not_block (fun g e => Nat.lt_of_lt_of_le (HLT.out x g e) hbs) hrow))
            have HO7 := Lib.hid (fun j (hj : k + 1 ≤ j) (hjl : j < K.length) => (own_below (HO5.out j hj hjl) hba).kept hg7 (not_block (fun g e => Nat.lt_of_lt_of_le (HLT.out _ g e) hbs) hrow))
            have HG7 := Lib.hid ((HG5.out.below hba).kept hg7 (fun e => by have := hrow _ e.symm; omega))
            have HK7 := Lib.hid ((own_below HKO5.out hba).kept hg7 (not_block (Bk := w2.heap.size) (fun g e => by have := HKO0.out; exact this g e) hrow))
            have HBB7 : Hid (Below w.heap.size w w7 ∧ w2.heap.size ≤ w7.heap.size) := Lib.hid ⟨(HBB5.out.1.alloc hsz7 _).grown hg7 (by simp; omega) (fun q hq => by have := hrow q hq; omega), Nat.le_trans hsz6 (Nat.le_trans (by simp) hg7.size)⟩
            clear hba hrow hg7 hl7
            go_roundw
            case rel => exact ⟨k + 1, T ++ [(nm, .slice uo n uc, vals l nm)], by omega, by go_num, by simp; omega, HT2, HD7, HO7, HG7, HK7, by rw [List.length_append, tcells_append]; exact hown7, HBB7⟩
            case measure => simp [intOf]; omega
        · obtain rfl : K.length = k := by omega
          have HE := Lib.hid (show tats T = nf l by rw [HT.out, List.take_length, HNK.out])
          go_wp2_with fail
          go_ret
          refine ⟨_, T, rfl, HE.out, fun t ht => ⟨(HD.out.own t ht).1.mono (Nat.le_succ _), ?_⟩, HD.out.apart (by rw [HE.out]; exact (nf_NF l).asc) HAP.out, hown.mono (by omega), HBB.out.1⟩
          rw [(HD.out.own t ht).2]
          exact not_block (Bk := w2.heap.size) (fun g e => Nat.lt_of_lt_of_le (HLT.out _ g e) hbs) (fun g e => (hown.lt g e).1)

end Go.Proofs.YtclfjdnemafmeaaGreatDoor
end
