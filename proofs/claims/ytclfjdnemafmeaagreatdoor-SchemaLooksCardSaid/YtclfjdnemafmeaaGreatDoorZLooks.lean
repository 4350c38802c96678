/-
  schema.Type, Lineage, Must and May return the specified results, for every schema and every name. No condition.
-/
import Derived.Test.YtclfjdnemafmeaaGreatDoorP27
set_option linter.unusedVariables false
set_option linter.unusedSimpArgs false
set_option linter.unnecessarySimpa false

section
/-
  The walk of SchemaLooks. No condition.
-/
set_option maxRecDepth 100000
set_option linter.unusedVariables false
set_option linter.unusedSimpArgs false
set_option linter.unnecessarySimpa false
namespace Go.Proofs.YtclfjdnemafmeaaGreatDoor
open Go.RowKit Go.PlainAid

set_option maxHeartbeats 16000000 in
theorem llooks_s (to : Option Addr) (tn tc : Nat) (ts : List Ty) (co : Option Addr) (cn cc : Nat) (cs : List Cl) (nam : ByteArray) (W : World) (HT : TysAt W to tn tc ts) (RT : RTy ts) (HC : ClsAt W co cn cc cs) (RC : RCl cs) (Mnam : nam.size ≤ maxLen) (hok : SOk W) :
    Calls Tryz.prog 4 #[.agg #[.slice to tn tc, .slice co cn cc], .string nam] W fun e w' => e = .returned (.bool true) ∧ Below W.heap.size W w' := by
  have HO := Lib.hid hok
  clear hok
  have a0 := below_al W (.cells #[.slice to tn tc, .slice co cn cc] 25)
  have HK0 : Hid (Kb (W.alloc (.cells #[.slice to tn tc, .slice co cn cc] 25)) W.heap.size (.cells #[.slice to tn tc, .slice co cn cc] 25)) := Lib.hid (kbl_new W _)
  have HI := Lib.hid (And.intro HT HC)
  have HFew := Lib.hid (few_s to tn tc ts co cn cc cs _ (HT.below a0) RT (HC.below a0) RC)
  have HLow := Lib.hid a0
  clear HT HC RT RC a0 
  have c0 := HK0.out.cell (i := 0) rfl
  have c1 := HK0.out.cell (i := 1) rfl
  go_enter Tryz.func4, Tryz.ntmps4
  go_wp2_with fail
  refine HFew.out.mono ?_
  rintro e w1 ⟨⟨g, rfl, hg, hb⟩⟩
  have HK0 := Lib.hid (HK0.out.step hb)
  have HLow := Lib.hid (HLow.out.trans (hb.mono HLow.out.size))
  have HO := Lib.hid (HO.out.below HLow.out)
  clear hb HFew c0 c1
  cases g
  · have HCx := Lib.hid (alive_s _ HO.out)
    go_wp2_with fail
    refine HCx.out.mono ?_
    rintro e w9 ⟨rfl, hb⟩
    have HLow := Lib.hid (HLow.out.trans (hb.mono HLow.out.size))
    clear hb
    go_wp2_with fail
    go_ret
    exact ⟨rfl, HLow.out⟩
  · have HG := Lib.hid (hg rfl)
    clear hg
    have HAV : Hid (AV W w1 W.heap.size to tn tc co cn cc ts cs) := Lib.hid ⟨HK0.out, ⟨_, _, _, _, _, _, rfl, HI.out.1.below HLow.out, HI.out.2.below HLow.out, HG.out.smT, HG.out.smC⟩, HO.out, HLow.out⟩
    clear HK0
    have c0 := HAV.out.box.cell (i := 0) rfl
    have c1 := HAV.out.box.cell (i := 1) rfl
    by_cases Ln : 100 < nam.size
    · have Dn : decide ((100 : Int) < (nam.size : Int)) = true := decide_eq_true (by omega)
      have HCx := Lib.hid (alive_s _ HAV.out.ok)
      go_wp2_with fail
      refine HCx.out.mono ?_
      rintro e w9 ⟨rfl, hb⟩
      have HAV := Lib.hid (HAV.out.step hb)
      clear hb
      go_wp2_with fail
      go_ret
      exact ⟨rfl, HAV.out.low⟩
    · have Dn : decide ((100 : Int) < (nam.size : Int)) = false := decide_eq_false (by omega)
      have Nn : nam.size ≤ 1000000000 := by omega
      obtain ⟨T, hT⟩ : ∃ x, (tyOf (soundT ts cs) nam).getD zeroTy = x := ⟨_, rfl⟩
      obtain ⟨ok, hok⟩ : ∃ x, (tyOf (soundT ts cs) nam).isSome = x := ⟨_, rfl⟩
      obtain ⟨p, x, sg⟩ := T
      have HTs := Lib.hid (And.intro hT hok)
      clear hT hok
      have HCx := Lib.hid (typeF_s _ ts cs nam _ HAV.out.sch Nn)
      rw [HTs.out.1, HTs.out.2] at HCx
      unfold tyV at HCx
      go_wp2_with fail
      refine HCx.out.mono ?_
      rintro e w2 ⟨rfl, hb⟩
      have HAV := Lib.hid (HAV.out.step hb)
      clear c0 c1
      clear hb HCx
      have c0 := HAV.out.box.cell (i := 0) rfl
      have c1 := HAV.out.box.cell (i := 1) rfl
      clear c0 c1
      have HT5 : Hid (Kb (w2.alloc (.cells #[.string p, .int .i64 x, .bool sg] 32)) w2.heap.size (.cells #[.string p, .int .i64 x, .bool sg] 32)) := Lib.hid (kbl_new _ _)
      have HAV := Lib.hid (HAV.out.step (below_al w2 (.cells #[.string p, .int .i64 x, .bool sg] 32)))
      have c0 := HAV.out.box.cell (i := 0) rfl
      have c1 := HAV.out.box.cell (i := 1) rfl
      have HCx := Lib.hid (type7_s _ ts cs nam _ HAV.out.sch Nn)
      rw [HTs.out.1, HTs.out.2] at HCx
      unfold tyV at HCx
      go_wp2_with fail
      refine HCx.out.mono ?_
      rintro e w3 ⟨rfl, hb⟩
      have HAV := Lib.hid (HAV.out.step hb)
      have HT5 := Lib.hid (HT5.out.step hb)
      clear c0 c1
      clear hb HCx
      have c0 := HAV.out.box.cell (i := 0) rfl
      have c1 := HAV.out.box.cell (i := 1) rfl
      have HT7 : Hid (Kb (w3.alloc (.cells #[.string p, .int .i64 x, .bool sg] 32)) w3.heap.size (.cells #[.string p, .int .i64 x, .bool sg] 32)) := Lib.hid (kbl_new _ _)
      clear c0 c1
      have HAV := Lib.hid (HAV.out.step (below_al w3 (.cells #[.string p, .int .i64 x, .bool sg] 32)))
      have HT5 := Lib.hid (HT5.out.step (below_al w3 (.cells #[.string p, .int .i64 x, .bool sg] 32)))
      have c0 := HAV.out.box.cell (i := 0) rfl
      have c1 := HAV.out.box.cell (i := 1) rfl
      go_wp2_with fail
      clear c0 c1
      obtain ⟨b5, hb5⟩ : ∃ x, w2.heap.size = x := ⟨_, rfl⟩
      obtain ⟨b7, hb7⟩ : ∃ x, w3.heap.size = x := ⟨_, rfl⟩
      rw [hb5] at HT5 ⊢
      rw [hb7] at HT7 ⊢
      clear hb5 hb7
      generalize w3.alloc (.cells #[.string p, .int .i64 x, .bool sg] 32) = W8 at HAV HT5 HT7 ⊢
      have HSt : ∀ V X : World, (AV W V W.heap.size to tn tc co cn cc ts cs ∧ Kb V b5 (.cells #[.string p, .int .i64 x, .bool sg] 32) ∧ Kb V b7 (.cells #[.string p, .int .i64 x, .bool sg] 32)) → Below V.heap.size V X → (fun V => V.cell? ⟨b5, 0, none⟩ = some (.string p) ∧ V.cell? ⟨b5, 1, none⟩ = some (.int .i64 x) ∧ V.cell? ⟨b5, 2, none⟩ = some (.bool sg) ∧ V.cell? ⟨b7, 0, none⟩ = some (.string p) ∧ V.cell? ⟨b7, 1, none⟩ = some (.int .i64 x) ∧ V.cell? ⟨b7, 2, none⟩ = some (.bool sg) ∧ V.cell? ⟨W.heap.size, 0, none⟩ = some (.slice to tn tc) ∧ V.cell? ⟨W.heap.size, 1, none⟩ = some (.slice co cn cc) ∧ Hid (AV W V W.heap.size to tn tc co cn cc ts cs ∧ Kb V b5 (.cells #[.string p, .int .i64 x, .bool sg] 32) ∧ Kb V b7 (.cells #[.string p, .int .i64 x, .bool sg] 32))) X := fun V X h hb => by
        have h1 := h.1.step hb
        have h2 := h.2.1.step hb
        have h3 := h.2.2.step hb
        exact ⟨h2.cell rfl, h2.cell rfl, h2.cell rfl, h3.cell rfl, h3.cell rfl, h3.cell rfl, h1.box.cell rfl, h1.box.cell rfl, Lib.hid ⟨h1, h2, h3⟩⟩
      have HSt := Lib.hid HSt
      have S0 := HSt.out W8 _ ⟨HAV.out, HT5.out, HT7.out⟩ (Below.refl _ _).drew
      refine wp_region_held_drew (S := fun V => V.cell? ⟨b5, 0, none⟩ = some (.string p) ∧ V.cell? ⟨b5, 1, none⟩ = some (.int .i64 x) ∧ V.cell? ⟨b5, 2, none⟩ = some (.bool sg) ∧ V.cell? ⟨b7, 0, none⟩ = some (.string p) ∧ V.cell? ⟨b7, 1, none⟩ = some (.int .i64 x) ∧ V.cell? ⟨b7, 2, none⟩ = some (.bool sg) ∧ V.cell? ⟨W.heap.size, 0, none⟩ = some (.slice to tn tc) ∧ V.cell? ⟨W.heap.size, 1, none⟩ = some (.slice co cn cc) ∧ Hid (AV W V W.heap.size to tn tc co cn cc ts cs ∧ Kb V b5 (.cells #[.string p, .int .i64 x, .bool sg] 32) ∧ Kb V b7 (.cells #[.string p, .int .i64 x, .bool sg] 32))) (by kernel_rfl) (S0) (fun hS => ?_)
      refine wpAnyH_take (i := 0) (oi := { dst := some 30, op := _, type := _, pos := _, after := _, guard := _ }) (v := ?_) rfl (by kernel_rfl) (by kernel_rfl) (by kernel_rfl) (fun _ _ _ h => h) (Or.inl ⟨by rfl, ?_⟩) (by assumption) ?_
      rotate_left
      · intro w hSw
        try dsimp only at hSw
        go_simp
        try with_reducible rfl
      try simp only [Act.put, List.setIfInBounds_toArray, List.set_cons_zero, List.set_cons_succ]
      refine wpAnyH_take (i := 1) (oi := { dst := some 31, op := _, type := _, pos := _, after := _, guard := _ }) (v := ?_) rfl (by kernel_rfl) (by kernel_rfl) (by kernel_rfl) (fun _ _ _ h => h) (Or.inl ⟨by rfl, ?_⟩) (by assumption) ?_
      rotate_left
      · intro w hSw
        try dsimp only at hSw
        go_simp
        try with_reducible rfl
      try simp only [Act.put, List.setIfInBounds_toArray, List.set_cons_zero, List.set_cons_succ]
      refine wpAnyH_take (i := 2) (oi := { dst := some 32, op := _, type := _, pos := _, after := _, guard := _ }) (v := ?_) rfl (by kernel_rfl) (by kernel_rfl) (by kernel_rfl) (fun _ _ _ h => h) (Or.inl ⟨by rfl, ?_⟩) (by assumption) ?_
      rotate_left
      · intro w hSw
        try dsimp only at hSw
        go_simp
        try with_reducible rfl
      try simp only [Act.put, List.setIfInBounds_toArray, List.set_cons_zero, List.set_cons_succ]
      refine wpAnyH_take (i := 3) (oi := { dst := some 33, op := _, type := _, pos := _, after := _, guard := _ }) (v := ?_) rfl (by kernel_rfl) (by kernel_rfl) (by kernel_rfl) (fun _ _ _ h => h) (Or.inl ⟨by rfl, ?_⟩) (by assumption) ?_
      rotate_left
      · intro w hSw
        try dsimp only at hSw
        go_simp
        try with_reducible rfl
      try simp only [Act.put, List.setIfInBounds_toArray, List.set_cons_zero, List.set_cons_succ]
      refine wpAnyH_take (i := 4) (oi := { dst := some 34, op := _, type := _, pos := _, after := _, guard := _ }) (v := ?_) rfl (by kernel_rfl) (by kernel_rfl) (by kernel_rfl) (fun _ _ _ h => h) (Or.inl ⟨by rfl, ?_⟩) (by assumption) ?_
      rotate_left
      · intro w hSw
        try dsimp only at hSw
        go_simp
        try with_reducible rfl
      try simp only [Act.put, List.setIfInBounds_toArray, List.set_cons_zero, List.set_cons_succ]
      refine wpAnyH_take (i := 5) (oi := { dst := some 35, op := _, type := _, pos := _, after := _, guard := _ }) (v := ?_) rfl (by kernel_rfl) (by kernel_rfl) (by kernel_rfl) (fun _ _ _ h => h) (Or.inl ⟨by rfl, ?_⟩) (by assumption) ?_
      rotate_left
      · intro w hSw
        try dsimp only at hSw
        go_simp
        try with_reducible rfl
      try simp only [Act.put, List.setIfInBounds_toArray, List.set_cons_zero, List.set_cons_succ]
      refine wpAnyH_take (i := 6) (oi := { dst := some 36, op := _, type := _, pos := _, after := _, guard := _ }) (v := ?_) rfl (by kernel_rfl) (by kernel_rfl) (by kernel_rfl) (fun _ _ _ h => h) (Or.inl ⟨by rfl, ?_⟩) (by assumption) ?_
      rotate_left
      · intro w hSw
        try dsimp only at hSw
        go_simp
        try with_reducible rfl
      try simp only [Act.put, List.setIfInBounds_toArray, List.set_cons_zero, List.set_cons_succ]
      refine wpAnyH_take (i := 7) (oi := { dst := some 37, op := _, type := _, pos := _, after := _, guard := _ }) (v := ?_) rfl (by kernel_rfl) (by kernel_rfl) (by kernel_rfl) (fun _ _ _ h => h) (Or.inl ⟨by rfl, ?_⟩) (by assumption) ?_
      rotate_left
      · intro w hSw
        try dsimp only at hSw
        go_simp
        try with_reducible rfl
      try simp only [Act.put, List.setIfInBounds_toArray, List.set_cons_zero, List.set_cons_succ]
      refine wpAnyH_take (i := 8) (oi := { dst := some 38, op := _, type := _, pos := _, after := _, guard := _ }) (v := ?_) rfl (by kernel_rfl) (by kernel_rfl) (by kernel_rfl) (fun _ _ _ h => h) (Or.inl ⟨by rfl, ?_⟩) (by assumption) ?_
      rotate_left
      · intro w hSw
        try dsimp only at hSw
        go_simp
        try with_reducible rfl
      try simp only [Act.put, List.setIfInBounds_toArray, List.set_cons_zero, List.set_cons_succ]
      refine wpAnyH_take (i := 9) (oi := { dst := some 39, op := _, type := _, pos := _, after := _, guard := _ }) (v := ?_) rfl (by kernel_rfl) (by kernel_rfl) (by kernel_rfl) (fun _ _ _ h => h) (Or.inl ⟨by rfl, ?_⟩) (by assumption) ?_
      rotate_left
      · intro w hSw
        try dsimp only at hSw
        go_simp
        try with_reducible rfl
      try simp only [Act.put, List.setIfInBounds_toArray, List.set_cons_zero, List.set_cons_succ]
      refine wpAnyH_take (i := 10) (oi := { dst := some 40, op := _, type := _, pos := _, after := _, guard := _ }) (v := ?_) rfl (by kernel_rfl) (by kernel_rfl) (by kernel_rfl) (fun _ _ _ h => h) (Or.inl ⟨by rfl, ?_⟩) (by assumption) ?_
      rotate_left
      · intro w hSw
        try dsimp only at hSw
        go_simp
        try with_reducible rfl
      try simp only [Act.put, List.setIfInBounds_toArray, List.set_cons_zero, List.set_cons_succ]
      refine wpAnyH_take (i := 12) (oi := { dst := some 42, op := _, type := _, pos := _, after := _, guard := _ }) (v := ?_) rfl (by kernel_rfl) (by kernel_rfl) (by kernel_rfl) (fun _ _ _ h => h) (Or.inl ⟨by rfl, ?_⟩) (by assumption) ?_
      rotate_left
      · intro w hSw
        try dsimp only at hSw
        go_simp
        try with_reducible rfl
      try simp only [Act.put, List.setIfInBounds_toArray, List.set_cons_zero, List.set_cons_succ]
      refine wpAnyH_take (i := 13) (oi := { dst := some 43, op := _, type := _, pos := _, after := _, guard := _ }) (v := ?_) rfl (by kernel_rfl) (by kernel_rfl) (by kernel_rfl) (fun _ _ _ h => h) (Or.inl ⟨by rfl, ?_⟩) (by assumption) ?_
      rotate_left
      · intro w hSw
        try dsimp only at hSw
        go_simp
        try with_reducible rfl
      try simp only [Act.put, List.setIfInBounds_toArray, List.set_cons_zero, List.set_cons_succ]
      refine wpAnyH_ready (rs := [11]) (by kernel_rfl) (by simp) ?_
      refine AllReadyH.cons rfl (fun K hK => ?_) AllReadyH.nil
      go_simp
      refine (lineageF_s _ ts cs nam _ hS.2.2.2.2.2.2.2.2.out.1.sch Nn).mono ?_
      rintro e v11 ⟨u1, rfl, hl1, hb⟩
      have HL1 := Lib.hid hl1
      have HKp := Lib.hid hS.2.2.2.2.2.2.2.2.out
      go_wp2_with fail
      refine hK.out _ _ ?_ (fun hHeld => ?_)
      · exact HSt.out _ _ HKp.out hb
      clear hK K
      try simp only [Act.put, List.setIfInBounds_toArray, List.set_cons_zero, List.set_cons_succ]
      refine wpAnyH_ready (rs := [14]) (by kernel_rfl) (by simp) ?_
      refine AllReadyH.cons rfl (fun K hK => ?_) AllReadyH.nil
      go_simp
      refine (lineageN7_s _ ts cs nam _ hHeld.2.2.2.2.2.2.2.2.out.1.sch Nn).mono ?_
      rintro e v14 ⟨u2, rfl, hl2, hb⟩
      have HL1 := Lib.hid (HL1.out.below hb)
      have HL2 := Lib.hid hl2
      have HKp := Lib.hid hHeld.2.2.2.2.2.2.2.2.out
      go_wp2_with fail
      refine hK.out _ _ ?_ (fun hHeld => ?_)
      · exact HSt.out _ _ HKp.out hb
      clear hK K
      try simp only [Act.put, List.setIfInBounds_toArray, List.set_cons_zero, List.set_cons_succ]
      refine wpAnyH_ready (rs := [15]) (by kernel_rfl) (by simp) ?_
      refine AllReadyH.cons rfl (fun K hK => ?_) AllReadyH.nil
      go_simp
      refine (lists_same _ HL1.out HL2.out).mono ?_
      rintro e v15 ⟨rfl, hb⟩
      have HKp := Lib.hid hHeld.2.2.2.2.2.2.2.2.out
      go_wp2_with fail
      refine hK.out _ _ ?_ (fun hHeld => ?_)
      · exact HSt.out _ _ HKp.out hb
      clear hK K
      try simp only [Act.put, List.setIfInBounds_toArray, List.set_cons_zero, List.set_cons_succ]
      refine wpAnyH_take (i := 16) (oi := { dst := some 46, op := _, type := _, pos := _, after := _, guard := _ }) (v := ?_) rfl (by kernel_rfl) (by kernel_rfl) (by kernel_rfl) (fun _ _ _ h => h) (Or.inl ⟨by rfl, ?_⟩) (by assumption) ?_
      rotate_left
      · intro w hSw
        try dsimp only at hSw
        go_simp
        try with_reducible rfl
      try simp only [Act.put, List.setIfInBounds_toArray, List.set_cons_zero, List.set_cons_succ]
      refine wpAnyH_take (i := 17) (oi := { dst := some 47, op := _, type := _, pos := _, after := _, guard := _ }) (v := ?_) rfl (by kernel_rfl) (by kernel_rfl) (by kernel_rfl) (fun _ _ _ h => h) (Or.inl ⟨by rfl, ?_⟩) (by assumption) ?_
      rotate_left
      · intro w hSw
        try dsimp only at hSw
        go_simp
        try with_reducible rfl
      try simp only [Act.put, List.setIfInBounds_toArray, List.set_cons_zero, List.set_cons_succ]
      refine wpAnyH_take (i := 18) (oi := { dst := some 48, op := _, type := _, pos := _, after := _, guard := _ }) (v := ?_) rfl (by kernel_rfl) (by kernel_rfl) (by kernel_rfl) (fun _ _ _ h => h) (Or.inl ⟨by rfl, ?_⟩) (by assumption) ?_
      rotate_left
      · intro w hSw
        try dsimp only at hSw
        go_simp
        try with_reducible rfl
      try simp only [Act.put, List.setIfInBounds_toArray, List.set_cons_zero, List.set_cons_succ]
      refine wpAnyH_take (i := 19) (oi := { dst := some 49, op := _, type := _, pos := _, after := _, guard := _ }) (v := ?_) rfl (by kernel_rfl) (by kernel_rfl) (by kernel_rfl) (fun _ _ _ h => h) (Or.inl ⟨by rfl, ?_⟩) (by assumption) ?_
      rotate_left
      · intro w hSw
        try dsimp only at hSw
        go_simp
        try with_reducible rfl
      try simp only [Act.put, List.setIfInBounds_toArray, List.set_cons_zero, List.set_cons_succ]
      refine wpAnyH_take (i := 21) (oi := { dst := some 51, op := _, type := _, pos := _, after := _, guard := _ }) (v := ?_) rfl (by kernel_rfl) (by kernel_rfl) (by kernel_rfl) (fun _ _ _ h => h) (Or.inl ⟨by rfl, ?_⟩) (by assumption) ?_
      rotate_left
      · intro w hSw
        try dsimp only at hSw
        go_simp
        try with_reducible rfl
      try simp only [Act.put, List.setIfInBounds_toArray, List.set_cons_zero, List.set_cons_succ]
      refine wpAnyH_take (i := 22) (oi := { dst := some 52, op := _, type := _, pos := _, after := _, guard := _ }) (v := ?_) rfl (by kernel_rfl) (by kernel_rfl) (by kernel_rfl) (fun _ _ _ h => h) (Or.inl ⟨by rfl, ?_⟩) (by assumption) ?_
      rotate_left
      · intro w hSw
        try dsimp only at hSw
        go_simp
        try with_reducible rfl
      try simp only [Act.put, List.setIfInBounds_toArray, List.set_cons_zero, List.set_cons_succ]
      refine wpAnyH_ready (rs := [20]) (by kernel_rfl) (by simp) ?_
      refine AllReadyH.cons rfl (fun K hK => ?_) AllReadyH.nil
      go_simp
      refine (mustF_s _ ts cs nam _ hHeld.2.2.2.2.2.2.2.2.out.1.sch Nn).mono ?_
      rintro e v20 ⟨u3, rfl, hl3, hb⟩
      have HL3 := Lib.hid hl3
      have HKp := Lib.hid hHeld.2.2.2.2.2.2.2.2.out
      go_wp2_with fail
      refine hK.out _ _ ?_ (fun hHeld => ?_)
      · exact HSt.out _ _ HKp.out hb
      clear hK K
      try simp only [Act.put, List.setIfInBounds_toArray, List.set_cons_zero, List.set_cons_succ]
      refine wpAnyH_ready (rs := [23]) (by kernel_rfl) (by simp) ?_
      refine AllReadyH.cons rfl (fun K hK => ?_) AllReadyH.nil
      go_simp
      refine (must7_v _ ts cs nam _ hHeld.2.2.2.2.2.2.2.2.out.1.sch Nn).mono ?_
      rintro e v23 ⟨u4, rfl, hl4, hb⟩
      have HL3 := Lib.hid (HL3.out.below hb)
      have HL4 := Lib.hid hl4
      have HKp := Lib.hid hHeld.2.2.2.2.2.2.2.2.out
      go_wp2_with fail
      refine hK.out _ _ ?_ (fun hHeld => ?_)
      · exact HSt.out _ _ HKp.out hb
      clear hK K
      try simp only [Act.put, List.setIfInBounds_toArray, List.set_cons_zero, List.set_cons_succ]
      refine wpAnyH_ready (rs := [24]) (by kernel_rfl) (by simp) ?_
      refine AllReadyH.cons rfl (fun K hK => ?_) AllReadyH.nil
      go_simp
      refine (lists_same _ HL3.out HL4.out).mono ?_
      rintro e v24 ⟨rfl, hb⟩
      have HKp := Lib.hid hHeld.2.2.2.2.2.2.2.2.out
      go_wp2_with fail
      refine hK.out _ _ ?_ (fun hHeld => ?_)
      · exact HSt.out _ _ HKp.out hb
      clear hK K
      try simp only [Act.put, List.setIfInBounds_toArray, List.set_cons_zero, List.set_cons_succ]
      refine wpAnyH_take (i := 25) (oi := { dst := some 55, op := _, type := _, pos := _, after := _, guard := _ }) (v := ?_) rfl (by kernel_rfl) (by kernel_rfl) (by kernel_rfl) (fun _ _ _ h => h) (Or.inl ⟨by rfl, ?_⟩) (by assumption) ?_
      rotate_left
      · intro w hSw
        try dsimp only at hSw
        go_simp
        try with_reducible rfl
      try simp only [Act.put, List.setIfInBounds_toArray, List.set_cons_zero, List.set_cons_succ]
      refine wpAnyH_take (i := 26) (oi := { dst := some 56, op := _, type := _, pos := _, after := _, guard := _ }) (v := ?_) rfl (by kernel_rfl) (by kernel_rfl) (by kernel_rfl) (fun _ _ _ h => h) (Or.inl ⟨by rfl, ?_⟩) (by assumption) ?_
      rotate_left
      · intro w hSw
        try dsimp only at hSw
        go_simp
        try with_reducible rfl
      try simp only [Act.put, List.setIfInBounds_toArray, List.set_cons_zero, List.set_cons_succ]
      refine wpAnyH_take (i := 27) (oi := { dst := some 57, op := _, type := _, pos := _, after := _, guard := _ }) (v := ?_) rfl (by kernel_rfl) (by kernel_rfl) (by kernel_rfl) (fun _ _ _ h => h) (Or.inl ⟨by rfl, ?_⟩) (by assumption) ?_
      rotate_left
      · intro w hSw
        try dsimp only at hSw
        go_simp
        try with_reducible rfl
      try simp only [Act.put, List.setIfInBounds_toArray, List.set_cons_zero, List.set_cons_succ]
      refine wpAnyH_take (i := 28) (oi := { dst := some 58, op := _, type := _, pos := _, after := _, guard := _ }) (v := ?_) rfl (by kernel_rfl) (by kernel_rfl) (by kernel_rfl) (fun _ _ _ h => h) (Or.inl ⟨by rfl, ?_⟩) (by assumption) ?_
      rotate_left
      · intro w hSw
        try dsimp only at hSw
        go_simp
        try with_reducible rfl
      try simp only [Act.put, List.setIfInBounds_toArray, List.set_cons_zero, List.set_cons_succ]
      refine wpAnyH_take (i := 30) (oi := { dst := some 60, op := _, type := _, pos := _, after := _, guard := _ }) (v := ?_) rfl (by kernel_rfl) (by kernel_rfl) (by kernel_rfl) (fun _ _ _ h => h) (Or.inl ⟨by rfl, ?_⟩) (by assumption) ?_
      rotate_left
      · intro w hSw
        try dsimp only at hSw
        go_simp
        try with_reducible rfl
      try simp only [Act.put, List.setIfInBounds_toArray, List.set_cons_zero, List.set_cons_succ]
      refine wpAnyH_take (i := 31) (oi := { dst := some 61, op := _, type := _, pos := _, after := _, guard := _ }) (v := ?_) rfl (by kernel_rfl) (by kernel_rfl) (by kernel_rfl) (fun _ _ _ h => h) (Or.inl ⟨by rfl, ?_⟩) (by assumption) ?_
      rotate_left
      · intro w hSw
        try dsimp only at hSw
        go_simp
        try with_reducible rfl
      try simp only [Act.put, List.setIfInBounds_toArray, List.set_cons_zero, List.set_cons_succ]
      refine wpAnyH_ready (rs := [29]) (by kernel_rfl) (by simp) ?_
      refine AllReadyH.cons rfl (fun K hK => ?_) AllReadyH.nil
      go_simp
      refine (mayF_s _ ts cs nam _ hHeld.2.2.2.2.2.2.2.2.out.1.sch Nn).mono ?_
      rintro e v29 ⟨u5, rfl, hl5, hb⟩
      have HL5 := Lib.hid hl5
      have HKp := Lib.hid hHeld.2.2.2.2.2.2.2.2.out
      go_wp2_with fail
      refine hK.out _ _ ?_ (fun hHeld => ?_)
      · exact HSt.out _ _ HKp.out hb
      clear hK K
      try simp only [Act.put, List.setIfInBounds_toArray, List.set_cons_zero, List.set_cons_succ]
      refine wpAnyH_ready (rs := [32]) (by kernel_rfl) (by simp) ?_
      refine AllReadyH.cons rfl (fun K hK => ?_) AllReadyH.nil
      go_simp
      refine (may7_v _ ts cs nam _ hHeld.2.2.2.2.2.2.2.2.out.1.sch Nn).mono ?_
      rintro e v32 ⟨u6, rfl, hl6, hb⟩
      have HL5 := Lib.hid (HL5.out.below hb)
      have HL6 := Lib.hid hl6
      have HKp := Lib.hid hHeld.2.2.2.2.2.2.2.2.out
      go_wp2_with fail
      refine hK.out _ _ ?_ (fun hHeld => ?_)
      · exact HSt.out _ _ HKp.out hb
      clear hK K
      try simp only [Act.put, List.setIfInBounds_toArray, List.set_cons_zero, List.set_cons_succ]
      refine wpAnyH_ready (rs := [33]) (by kernel_rfl) (by simp) ?_
      refine AllReadyH.cons rfl (fun K hK => ?_) AllReadyH.nil
      go_simp
      refine (lists_same _ HL5.out HL6.out).mono ?_
      rintro e v33 ⟨rfl, hb⟩
      have HKp := Lib.hid hHeld.2.2.2.2.2.2.2.2.out
      go_wp2_with fail
      refine hK.out _ _ ?_ (fun hHeld => ?_)
      · exact HSt.out _ _ HKp.out hb
      clear hK K
      try simp only [Act.put, List.setIfInBounds_toArray, List.set_cons_zero, List.set_cons_succ]
      refine wpAnyH_take (i := 34) (oi := { dst := some 64, op := _, type := _, pos := _, after := _, guard := _ }) (v := ?_) rfl (by kernel_rfl) (by kernel_rfl) (by kernel_rfl) (fun _ _ _ h => h) (Or.inl ⟨by rfl, ?_⟩) (by assumption) ?_
      rotate_left
      · intro w hSw
        try dsimp only at hSw
        go_simp
        try with_reducible rfl
      try simp only [Act.put, List.setIfInBounds_toArray, List.set_cons_zero, List.set_cons_succ]
      refine wpAnyH_take (i := 35) (oi := { dst := some 65, op := _, type := _, pos := _, after := _, guard := _ }) (v := ?_) rfl (by kernel_rfl) (by kernel_rfl) (by kernel_rfl) (fun _ _ _ h => h) (Or.inl ⟨by rfl, ?_⟩) (by assumption) ?_
      rotate_left
      · intro w hSw
        try dsimp only at hSw
        go_simp
        try with_reducible rfl
      try simp only [Act.put, List.setIfInBounds_toArray, List.set_cons_zero, List.set_cons_succ]
      refine wpAnyH_ready (rs := [36]) (by kernel_rfl) (by simp) ?_
      refine AllReadyH.cons rfl (fun K hK => ?_) AllReadyH.nil
      go_simp
      refine (alive_s _ hHeld.2.2.2.2.2.2.2.2.out.1.ok).mono ?_
      rintro e v36 ⟨rfl, hb⟩
      have HKp := Lib.hid hHeld.2.2.2.2.2.2.2.2.out
      go_wp2_with fail
      refine hK.out _ _ ?_ (fun hHeld => ?_)
      · exact HSt.out _ _ HKp.out hb
      clear hK K
      try simp only [Act.put, List.setIfInBounds_toArray, List.set_cons_zero, List.set_cons_succ]
      refine wpAnyH_take (i := 37) (oi := { dst := some 67, op := _, type := _, pos := _, after := _, guard := _ }) (v := ?_) rfl (by kernel_rfl) (by kernel_rfl) (by kernel_rfl) (fun _ _ _ h => h) (Or.inl ⟨by rfl, ?_⟩) (by assumption) ?_
      rotate_left
      · intro w hSw
        try dsimp only at hSw
        go_simp
        try with_reducible rfl
      try simp only [Act.put, List.setIfInBounds_toArray, List.set_cons_zero, List.set_cons_succ]
      refine wpAnyH_take (i := 38) (oi := { dst := some 4, op := _, type := _, pos := _, after := _, guard := _ }) (v := ?_) rfl (by kernel_rfl) (by kernel_rfl) (by kernel_rfl) (fun _ _ _ h => h) (Or.inl ⟨by rfl, ?_⟩) (by assumption) ?_
      rotate_left
      · intro w hSw
        try dsimp only at hSw
        go_simp
        try with_reducible rfl
      try simp only [Act.put, List.setIfInBounds_toArray, List.set_cons_zero, List.set_cons_succ]
      refine wpAnyH_done (by kernel_rfl) ?_ _
      go_wp2_with fail
      go_ret
      exact ⟨rfl, hHeld.2.2.2.2.2.2.2.2.out.1.low⟩

end Go.Proofs.YtclfjdnemafmeaaGreatDoor
end

section
/-
  schema.Type, Lineage, Must and May return the specified results, for every schema and every name. No condition.
-/
set_option maxRecDepth 100000
set_option linter.unusedVariables false
set_option linter.unusedSimpArgs false
set_option linter.unnecessarySimpa false
namespace Go.Proofs.YtclfjdnemafmeaaGreatDoor
open Go.ChangeShapes Go.WideShapes Go.ChangeAt Go.RowKit Go.PlainAid
open Go.ChangeMaps (open_string shut_string)


theorem llooks_types : ∀ t ∈ [25, 9], Tryz.prog.readableRec t = true ∧ t < Tryz.prog.types.size := by
  have h : ([25, 9].all fun t => Tryz.prog.readableRec t && decide (t < Tryz.prog.types.size)) = true := by kernel_rfl
  intro t ht
  have := List.all_eq_true.1 h t ht
  simpa using this

theorem llooks_contract (H : Type) (enc : TypeId × Value → H) (W : World) (base : Nat) (args : Array Value) (ds gs : List (DataW H)) (before : List MemPlace)
    (hval : ∀ (j : Nat) t v, Tryz.f4.params[j]? = some t → args[j]? = some v → Value.okWide Tryz.prog W .any base t v)
    (hW : DataW.Whole enc Tryz.prog Tryz.f4.params.toList Rows.schemaLooksSpec.vars false W args.toList ds gs before)
    (hsz0 : (DataW.weightsEach Tryz.prog (Tryz.f4.params.toList ++ (OpenSpec.ofChange Rows.schemaLooksSpec).bare.plain.varTypes Tryz.prog) (ds ++ gs)).all (· ≤ reachBytes) = true)
    (hL : laidMetH Tryz.prog Rows.schemaLooksRow.laid W) (hsh : W.ShapedOpen Tryz.prog) :
    Calls Tryz.prog 4 args W fun e W' => ∃ v, e = .returned v ∧ Rows.schemaLooksSpec.post enc Tryz.prog Tryz.f4 false true false false W args v W' := by
  have hW' := hW
  obtain ⟨p, q, hA0, hV, rfl, hfz, hnd⟩ := hW
  have hA : DataW.TrodAll enc Tryz.prog W 0 (fun _ => true) true Tryz.f4.params.toList args.toList ds p := hA0
  obtain ⟨rfl, rfl⟩ := trodVars_none hV
  simp only [List.append_nil] at hW'
  have hlt : ∀ x ∈ p, x.block < W.heap.size := fun x hx => by simpa using hW'.lt x hx
  have fin : ∀ W', Below W.heap.size W W' → DataW.TrodAll enc Tryz.prog W' 0 (fun b => decide (b < W.heap.size)) true [25, 9] args.toList ds p := fun W' hb => by
    rw [Tryz.params4] at hA
    exact trodAll_below hb _ _ _ _ llooks_types hA hlt
  clear hA0
  rw [Tryz.params4] at hA hval hsz0
  rw [show (OpenSpec.ofChange Rows.schemaLooksSpec).bare.plain.varTypes Tryz.prog = [] from rfl, List.append_nil, List.append_nil] at hsz0
  obtain ⟨v0, vs0, d0, ds0, p0, q0, hargs, rfl, hp0, h0, r0⟩ := trodAll_cons hA
  obtain ⟨v1, vs1, d1, ds1, p1, q1, rfl, rfl, hp1, h1, r1⟩ := trodAll_cons r0
  obtain ⟨rfl, rfl, rfl⟩ := trodAll_nil r1
  obtain rfl : args = #[v0, v1] := by cases args; simp_all
  have hsz : (DataW.weightsEach Tryz.prog [25, 9] [d0, d1]).all (fun x => decide (x ≤ reachBytes)) = true := by simpa using hsz0
  clear hsz0
  obtain ⟨to, tn, tc, ts, co, cn, cc, cs, rfl, ht0, rt0, hc0, rc0⟩ := open_schemaR (hval 0 25 v0 rfl rfl) h0 (fun n hn => by have := List.all_eq_true.1 hsz n (DataW.weights_mem_each (j := 0) (t := 25) rfl rfl n hn); exact of_decide_eq_true this)
  obtain ⟨nam, rfl, rfl, rfl, hs1⟩ := open_string Tryz.underlying9 (hval 1 9 v1 rfl rfl) h1
  refine (llooks_s to tn tc ts co cn cc cs nam W ht0 rt0 hc0 rc0 hs1 (sok hL hsh)).mono fun e W' ⟨he, hb⟩ => ?_
  subst he
  exact ⟨_, rfl, _, _, _, [], p, [], hW', trodAll_mk1 (shut_bool Tryz.underlying4 _), fin W' hb, rfl, hb.frame _, fun h => by cases h⟩

theorem llooks_lifted (os : Os) (started : os.Started) (H : Type) (enc : TypeId × Value → H) (F : Stop.Interp) :
    ReturnsInHanded {} Tryz.checked os 4 .any ((OpenSpec.ofChange Rows.schemaLooksSpec).preRow enc Tryz.prog Tryz.f4 Rows.schemaLooksRow.domain false Rows.schemaLooksRow.laid) (((OpenSpec.ofChange Rows.schemaLooksSpec).at F).post enc Tryz.prog Tryz.f4 false true false false) := by
  refine returnsInHanded_of_row (C := Tryz.checked) (s := OpenSpec.ofChange Rows.schemaLooksSpec) own started (by kernel_rfl) Tryz.func4
    (witness_row (enc := enc) (C := Tryz.checked) false (World.laidAll Tryz.prog os Rows.schemaLooksRow.laid) #[.agg #[.slice none 0 0, .slice none 0 0], .string ⟨#[]⟩] (World.laidAll_os _ _ _)
      (World.shaped_of_ZipB (by kernel_rfl) (by kernel_rfl)) (by kernel_rfl)
      (OpenSpec.preRow_of_cond 8 (x := ([.agg [.nil, .nil], .lit (.string [])], [], [])) (by kernel_rfl) (by kernel_rfl) (fun k hk => by cases hk) (by kernel_rfl)
        (by rw [MakeChecks.laidMetH_plain _ _ _ (by kernel_rfl)]; exact laidMet_laidAll _ (by kernel_rfl) (by kernel_rfl)))) ?_
  intro W base args ds gs before hval hW _ _ hsz hL hsh _
  exact llooks_contract H enc W base args ds gs before hval hW hsz hL hsh

theorem llooks_said : Rows.SchemaLooksSaid :=
  OpenClaim.holds_of_cond 4 Tryz.f4 rfl rfl rfl rfl rfl rfl rfl ⟨rfl, rfl, rfl, rfl, rfl⟩ rfl rfl rfl rfl rfl (by kernel_rfl) Tryz.func4 (by kernel_rfl)
    (of_decide_eq_true (by kernel_rfl)) (by unfold Func.isWrapper; first | (rw [if_pos (by decide +kernel)]; kernel_rfl) | (rw [if_neg (by decide +kernel)]; exact ⟨rfl, rfl⟩))
    (fun os started H enc _ F => by rw [OpenClaim.pre_eq_preRow]; exact llooks_lifted os started H enc F)

theorem llooks_plain (f : FuncId) (fn : Func) (hf : Tryz.pinned.checked.prog.funcNamed "identity/identitylaw07.SchemaLooks" = some f) (hfn : Tryz.pinned.checked.prog.funcs[f]? = some fn) :
    true = Tryz.pinned.checked.prog.looks [] ∧ ∀ (j : Nat) t, fn.params[j]? = some t → Tryz.pinned.checked.prog.wantsStandIn t = false := by
  obtain rfl : f = 4 := Option.some.inj ((show Tryz.prog.funcNamed "identity/identitylaw07.SchemaLooks" = some 4 by kernel_rfl).symm.trans hf) |>.symm
  obtain rfl : fn = Tryz.f4 := (Option.some.inj (Tryz.func4.symm.trans hfn)).symm
  refine ⟨by kernel_rfl, fun j t ht => ?_⟩
  rw [Tryz.params4] at ht
  have hm : t ∈ [25, 9] := by simpa using Array.mem_of_getElem? ht
  have hall : ([25, 9].all fun u => !Tryz.prog.wantsStandIn u) = true := by kernel_rfl
  exact (show Tryz.prog.wantsStandIn t = false by simpa using List.all_eq_true.1 hall t hm)

/-- THE CARD -/
theorem llooks_card : Rows.SchemaLooksCardSaid :=
  Claim7.holds_tied_plain_at .later [] _ _ _ _ llooks_said (fun _ h => by cases h) (by kernel_rfl) (fun _ h => by cases h) schemaLooks_row_tie rfl ⟨rfl, rfl⟩ (by kernel_rfl) rfl llooks_plain (by kernel_rfl)
end Go.Proofs.YtclfjdnemafmeaaGreatDoor
end
