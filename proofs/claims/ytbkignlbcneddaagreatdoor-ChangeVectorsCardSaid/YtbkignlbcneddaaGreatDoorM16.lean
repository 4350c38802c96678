/-
  Texts of the schema layer and of those beneath it, joined: ChgK5, ChgK6. Conditions stand at each contract.
-/
import Derived.Test.YtbkignlbcneddaaGreatDoorM15
set_option linter.unusedVariables false
set_option linter.unusedSimpArgs false
set_option linter.unnecessarySimpa false

section
/-
  Contract of Check of a change record: the specification's. Condition: strings of at most 1000000 bytes.
-/
set_option maxRecDepth 100000
namespace Go.Proofs.YtbkignlbcneddaaGreatDoor
open Go.RowKit Go.PlainAid
open Csn (Cn cnV KbC kbc_new box_below box_lt parEC parVC vldC)
set_option maxHeartbeats 8000000 in
theorem rchkg_s (g : Chg) (w : World) (hz : SmG g) (ho : MaxOk w) :
    Calls Tryz.prog 18 #[chV g] w fun e w' => e = .returned (.int .i64 (chkG g)) ∧ Below w.heap.size w w' := by
  obtain ⟨⟨t, s, r⟩, o, i, n, a, v⟩ := g
  rw [chV_is]
  have HK := Lib.hid (bxg_new w ⟨(t, s, r), o, i, n, a, v⟩ ho)
  rw [chB_is] at HK
  obtain ⟨z1, z2, z3, z4⟩ := hz
  dsimp only at z1 z2 z3 z4
  have HZ := Lib.hid (And.intro z1 (And.intro z2 (And.intro z3 z4)))
  obtain ⟨rc, hrc⟩ : ∃ x, chkG ⟨(t, s, r), o, i, n, a, v⟩ = x := ⟨_, rfl⟩
  rw [hrc]
  have HR := Lib.hid hrc
  obtain ⟨c0, c1, c2, c3, c4, c5, c6, c7⟩ := at8_box HK.out.box
  dsimp only at c0 c1 c2 c3 c4 c5 c6 c7
  obtain ⟨bv, hbv⟩ : ∃ x, vldC (t, s, r) = x := ⟨_, rfl⟩
  have HV := Lib.hid hbv
  go_enter Tryz.func18, Tryz.ntmps18
  go_wp2_with fail
  clear c0 c1 c2 c3 c4 c5 c6 c7
  generalize w.alloc (.cells #[.int .i64 t, .int .i64 s, .int .i64 r, .int .i64 o, .string i, .string n, .string a, .string v] 26) = W0 at HK ⊢
  refine (Csn.rvldb_k t s r bv W0 HV.out).mono ?_
  rintro e w1 ⟨rfl, hb⟩
  have HK := Lib.hid (HK.out.step hb)
  clear hb
  obtain ⟨c0, c1, c2, c3, c4, c5, c6, c7⟩ := at8_box HK.out.box
  dsimp only at c0 c1 c2 c3 c4 c5 c6 c7
  cases bv
  · have HE := Lib.hid (show rc = 2 from by rw [← hrc]; exact chk_arg (.inl hbv))
    clear hrc hbv
    go_wp2_with fail
    go_ret
    exact ⟨by rw [HE.out]; rfl, HK.out.low⟩
  · by_cases h1 : o < 1
    · have HE := Lib.hid (show rc = 2 from by rw [← hrc]; exact chk_arg (.inr (.inl h1)))
      have d1 : decide (o < 1) = true := decide_eq_true h1
      clear hrc hbv
      go_wp2_with fail
      go_ret
      exact ⟨by rw [HE.out]; rfl, HK.out.low⟩
    · have d1 : decide (o < 1) = false := decide_eq_false h1
      by_cases h5 : 5 < o
      · have HE := Lib.hid (show rc = 2 from by rw [← hrc]; exact chk_arg (.inr (.inr h5)))
        have d5 : decide (5 < o) = true := decide_eq_true h5
        clear hrc hbv
        go_wp2_with fail
        go_ret
        exact ⟨by rw [HE.out]; rfl, HK.out.low⟩
      · have d5 : decide (5 < o) = false := decide_eq_false h5
        obtain ⟨⟨pa, pb, pc⟩, hpv⟩ : ∃ x, parVC i.data.toList = x := ⟨_, rfl⟩
        obtain ⟨pe, hpe⟩ : ∃ x, parEC i.data.toList = x := ⟨_, rfl⟩
        have HI := Lib.hid (show (decide (pe = 0)) = idB i by unfold idB; rw [hpe])
        have HC := Lib.hid (Csn.rparse_s i w1 HZ.out.1)
        rw [hpv, hpe] at HC
        clear hpv hpe
        go_wp2_with fail
        refine HC.out.mono ?_
        rintro e w2 ⟨rfl, hb⟩
        have HK := Lib.hid ((HK.out.step hb).step (box_below w2 (.cells #[.int .i64 pa, .int .i64 pb, .int .i64 pc] 23)))
        clear hb c0 c1 c2 c3 c4 c5 c6 c7 HC
        unfold cnV
        dsimp only
        obtain ⟨c0, c1, c2, c3, c4, c5, c6, c7⟩ := at8_box HK.out.box
        dsimp only at c0 c1 c2 c3 c4 c5 c6 c7
        by_cases hp0 : pe = 0
        · have hbi : idB i = true := by rw [← HI.out]; exact decide_eq_true hp0
          have p0 : (pe != 0) = false := by rw [hp0]; rfl
          obtain ⟨bu, hbu⟩ : ∃ x, unused ⟨(t, s, r), o, i, n, a, v⟩ = x := ⟨_, rfl⟩
          have HU := Lib.hid hbu
          go_wp2_with fail
          refine (runused_s ⟨(t, s, r), o, i, n, a, v⟩ _).mono ?_
          rintro e w3 ⟨rfl, rfl⟩
          rw [HU.out]
          have HK := Lib.hid (HK.out.step (box_below _ (chB ⟨(t, s, r), o, i, n, a, v⟩)))
          clear c0 c1 c2 c3 c4 c5 c6 c7
          generalize (w2.alloc (.cells #[.int .i64 pa, .int .i64 pb, .int .i64 pc] 23)).alloc (chB ⟨(t, s, r), o, i, n, a, v⟩) = W3 at HK ⊢
          obtain ⟨c0, c1, c2, c3, c4, c5, c6, c7⟩ := at8_box HK.out.box
          dsimp only at c0 c1 c2 c3 c4 c5 c6 c7
          cases bu
          · cases hN : useN o
            · cases hV : useV o
              · obtain ⟨q1, q2⟩ := chk_none (g := ⟨(t, s, r), o, i, n, a, v⟩) hbv (show ¬ o < 1 by omega) (show ¬ 5 < o by omega) hbi hbu hN hV
                have HE := Lib.hid (show rc = 0 from by rw [← hrc]; exact q1)
                dsimp only at q2
                clear hrc hbv hbi hbu hN hV q1 d1 d5 h1 h5 HU HR
                subst q2
                go_wp2_with fail
                go_ret
                exact ⟨by rw [HE.out]; rfl, HK.out.low⟩
              · have HE := Lib.hid (show valE a v = rc from by rw [← hrc, chk_rest (g := ⟨(t, s, r), o, i, n, a, v⟩) hbv (show ¬ o < 1 by omega) (show ¬ 5 < o by omega) hbi hbu, if_neg (by rw [hN]; simp), if_pos hV])
                clear hrc hbv hbi hbu hN d1 d5 h1 h5 HU HR
                obtain ⟨bn, hbn⟩ : ∃ x, nameB a = x := ⟨_, rfl⟩
                obtain ⟨bc, hbc⟩ : ∃ x, cleanB v = x := ⟨_, rfl⟩
                obtain ⟨la, hla⟩ : ∃ x, lowS a = x := ⟨_, rfl⟩
                have HNb := Lib.hid hbn
                have HCb := Lib.hid hbc
                have HLa := Lib.hid hla
                have HE2 := Lib.hid (show rc = if bn = false ∨ la ≠ a then 5 else if bc = false then 8 else 0 from by rw [← HE.out]; unfold valE; rw [hbn, hbc, hla])
                clear hbn hbc hla
                unfold useV at hV
                simp only [Bool.or_eq_true, decide_eq_true_eq] at hV
                have e1 : (o == 1) = false := by rcases hV with rfl | rfl <;> rfl
                have e3 : (o == 3) = false := by rcases hV with rfl | rfl <;> rfl
                have hE : (o == 4) = true ∨ ((o == 4) = false ∧ (o == 5) = true) := by
                  rcases hV with rfl | rfl
                  · exact .inl rfl
                  · exact .inr ⟨rfl, rfl⟩
                clear hV
                have l0 := str_ne la a
                have l1 := str_eq la a
                have HSt := Lib.hid (show ∀ V : World, BxG w w.heap.size ⟨(t, s, r), o, i, n, a, v⟩ V → (fun V => V.cell? ⟨w.heap.size, 6, none⟩ = some (.string a) ∧ Hid (BxG w w.heap.size ⟨(t, s, r), o, i, n, a, v⟩ V)) V from fun V h => ⟨(at8_box h.box).c6, Lib.hid h⟩)
                cases bn
                · have HE3 := Lib.hid (show rc = 5 from HE2.out.trans (if_pos (.inl rfl)))
                  rcases hE with e4 | ⟨e4, e5⟩
                  all_goals
                    go_wp2_with fail
                    have S0 := HSt.out _ HK.out.drew
                    clear c0 c1 c2 c3 c4 c5 c6 c7
                    refine wp_region_held_drew (S := fun V => V.cell? ⟨w.heap.size, 6, none⟩ = some (.string a) ∧ Hid (BxG w w.heap.size ⟨(t, s, r), o, i, n, a, v⟩ V)) (by kernel_rfl) (S0) (fun hS => ?_)
                    refine wpAnyH_take (i := 0) (oi := { dst := some 48, op := _, type := _, pos := _, after := _, guard := _ }) (v := ?_) rfl (by kernel_rfl) (by kernel_rfl) (by kernel_rfl) (fun _ _ _ h => h) (Or.inl ⟨by rfl, ?_⟩) (by assumption) ?_
                    rotate_left
                    · intro w hSw
                      try dsimp only at hSw
                      go_simp
                      try with_reducible rfl
                    try simp only [Act.put, List.setIfInBounds_toArray, List.set_cons_zero, List.set_cons_succ]
                    refine wpAnyH_take (i := 1) (oi := { dst := some 49, op := _, type := _, pos := _, after := _, guard := _ }) (v := ?_) rfl (by kernel_rfl) (by kernel_rfl) (by kernel_rfl) (fun _ _ _ h => h) (Or.inl ⟨by rfl, ?_⟩) (by assumption) ?_
                    rotate_left
                    · intro w hSw
                      try dsimp only at hSw
                      go_simp
                      try with_reducible rfl
                    try simp only [Act.put, List.setIfInBounds_toArray, List.set_cons_zero, List.set_cons_succ]
                    refine wpAnyH_ready (rs := [2]) (by kernel_rfl) (by simp) ?_
                    refine AllReadyH.cons rfl (fun K hK => ?_) AllReadyH.nil
                    go_simp
                    refine (rName_s a _ (by have := HZ.out.2.2.1; omega)).mono ?_
                    rintro e v1 ⟨rfl, rfl⟩
                    rw [HNb.out]
                    go_wp2_with fail
                    refine hK.out _ _ ?_ (fun hHeld => ?_)
                    · exact hS
                    clear hK K
                    try simp only [Act.put, List.setIfInBounds_toArray, List.set_cons_zero, List.set_cons_succ]
                    refine wpAnyH_take (i := 3) (oi := { dst := some 51, op := _, type := _, pos := _, after := _, guard := _ }) (v := ?_) rfl (by kernel_rfl) (by kernel_rfl) (by kernel_rfl) (fun _ _ _ h => h) (Or.inl ⟨by rfl, ?_⟩) (by assumption) ?_
                    rotate_left
                    · intro w hSw
                      try dsimp only at hSw
                      go_simp
                      try with_reducible rfl
                    try simp only [Act.put, List.setIfInBounds_toArray, List.set_cons_zero, List.set_cons_succ]
                    refine wpAnyH_take (i := 4) (oi := { dst := some 52, op := _, type := _, pos := _, after := _, guard := _ }) (v := ?_) rfl (by kernel_rfl) (by kernel_rfl) (by kernel_rfl) (fun _ _ _ h => h) (Or.inl ⟨by rfl, ?_⟩) (by assumption) ?_
                    rotate_left
                    · intro w hSw
                      try dsimp only at hSw
                      go_simp
                      try with_reducible rfl
                    try simp only [Act.put, List.setIfInBounds_toArray, List.set_cons_zero, List.set_cons_succ]
                    refine wpAnyH_take (i := 5) (oi := { dst := some 53, op := _, type := _, pos := _, after := _, guard := _ }) (v := undef) rfl (by kernel_rfl) (by kernel_rfl) (by kernel_rfl) (fun _ _ _ h => h) (Or.inr ⟨by rfl, rfl⟩) (by assumption) ?_
                    try simp only [Act.put, List.setIfInBounds_toArray, List.set_cons_zero, List.set_cons_succ]
                    refine wpAnyH_take (i := 6) (oi := { dst := some 54, op := _, type := _, pos := _, after := _, guard := _ }) (v := undef) rfl (by kernel_rfl) (by kernel_rfl) (by kernel_rfl) (fun _ _ _ h => h) (Or.inr ⟨by rfl, rfl⟩) (by assumption) ?_
                    try simp only [Act.put, List.setIfInBounds_toArray, List.set_cons_zero, List.set_cons_succ]
                    refine wpAnyH_take (i := 7) (oi := { dst := some 55, op := _, type := _, pos := _, after := _, guard := _ }) (v := undef) rfl (by kernel_rfl) (by kernel_rfl) (by kernel_rfl) (fun _ _ _ h => h) (Or.inr ⟨by rfl, rfl⟩) (by assumption) ?_
                    try simp only [Act.put, List.setIfInBounds_toArray, List.set_cons_zero, List.set_cons_succ]
                    refine wpAnyH_take (i := 8) (oi := { dst := some 56, op := _, type := _, pos := _, after := _, guard := _ }) (v := undef) rfl (by kernel_rfl) (by kernel_rfl) (by kernel_rfl) (fun _ _ _ h => h) (Or.inr ⟨by rfl, rfl⟩) (by assumption) ?_
                    try simp only [Act.put, List.setIfInBounds_toArray, List.set_cons_zero, List.set_cons_succ]
                    refine wpAnyH_take (i := 9) (oi := { dst := some 57, op := _, type := _, pos := _, after := _, guard := _ }) (v := undef) rfl (by kernel_rfl) (by kernel_rfl) (by kernel_rfl) (fun _ _ _ h => h) (Or.inr ⟨by rfl, rfl⟩) (by assumption) ?_
                    try simp only [Act.put, List.setIfInBounds_toArray, List.set_cons_zero, List.set_cons_succ]
                    refine wpAnyH_take (i := 10) (oi := { dst := some 58, op := _, type := _, pos := _, after := _, guard := _ }) (v := undef) rfl (by kernel_rfl) (by kernel_rfl) (by kernel_rfl) (fun _ _ _ h => h) (Or.inr ⟨by rfl, rfl⟩) (by assumption) ?_
                    try simp only [Act.put, List.setIfInBounds_toArray, List.set_cons_zero, List.set_cons_succ]
                    refine wpAnyH_take (i := 11) (oi := { dst := some 59, op := _, type := _, pos := _, after := _, guard := _ }) (v := ?_) rfl (by kernel_rfl) (by kernel_rfl) (by kernel_rfl) (fun _ _ _ h => h) (Or.inl ⟨by rfl, ?_⟩) (by assumption) ?_
                    rotate_left
                    · intro w hSw
                      try dsimp only at hSw
                      go_simp
                      try with_reducible rfl
                    try simp only [Act.put, List.setIfInBounds_toArray, List.set_cons_zero, List.set_cons_succ]
                    refine wpAnyH_done (by kernel_rfl) ?_ _
                    go_wp2_with fail
                    go_ret
                    exact ⟨by rw [HE3.out]; rfl, hHeld.2.out.low⟩
                · by_cases hl : la = a
                  · rw [decide_eq_false (p := la ≠ a) (fun k => k hl)] at l0
                    rw [decide_eq_true hl] at l1
                    have HE3 := Lib.hid (show rc = if bc = false then 8 else 0 from HE2.out.trans (if_neg (by simp [hl])))
                    clear hl
                    rcases hE with e4 | ⟨e4, e5⟩
                    all_goals
                      go_wp2_with fail
                      have S0 := HSt.out _ HK.out.drew
                      clear c0 c1 c2 c3 c4 c5 c6 c7
                      refine wp_region_held_drew (S := fun V => V.cell? ⟨w.heap.size, 6, none⟩ = some (.string a) ∧ Hid (BxG w w.heap.size ⟨(t, s, r), o, i, n, a, v⟩ V)) (by kernel_rfl) (S0) (fun hS => ?_)
                      refine wpAnyH_take (i := 0) (oi := { dst := some 48, op := _, type := _, pos := _, after := _, guard := _ }) (v := ?_) rfl (by kernel_rfl) (by kernel_rfl) (by kernel_rfl) (fun _ _ _ h => h) (Or.inl ⟨by rfl, ?_⟩) (by assumption) ?_
                      rotate_left
                      · intro w hSw
                        try dsimp only at hSw
                        go_simp
                        try with_reducible rfl
                      try simp only [Act.put, List.setIfInBounds_toArray, List.set_cons_zero, List.set_cons_succ]
                      refine wpAnyH_take (i := 1) (oi := { dst := some 49, op := _, type := _, pos := _, after := _, guard := _ }) (v := ?_) rfl (by kernel_rfl) (by kernel_rfl) (by kernel_rfl) (fun _ _ _ h => h) (Or.inl ⟨by rfl, ?_⟩) (by assumption) ?_
                      rotate_left
                      · intro w hSw
                        try dsimp only at hSw
                        go_simp
                        try with_reducible rfl
                      try simp only [Act.put, List.setIfInBounds_toArray, List.set_cons_zero, List.set_cons_succ]
                      refine wpAnyH_ready (rs := [2]) (by kernel_rfl) (by simp) ?_
                      refine AllReadyH.cons rfl (fun K hK => ?_) AllReadyH.nil
                      go_simp
                      refine (rName_s a _ (by have := HZ.out.2.2.1; omega)).mono ?_
                      rintro e v1 ⟨rfl, rfl⟩
                      rw [HNb.out]
                      go_wp2_with fail
                      refine hK.out _ _ ?_ (fun hHeld => ?_)
                      · exact hS
                      clear hK K
                      try simp only [Act.put, List.setIfInBounds_toArray, List.set_cons_zero, List.set_cons_succ]
                      refine wpAnyH_take (i := 3) (oi := { dst := some 51, op := _, type := _, pos := _, after := _, guard := _ }) (v := ?_) rfl (by kernel_rfl) (by kernel_rfl) (by kernel_rfl) (fun _ _ _ h => h) (Or.inl ⟨by rfl, ?_⟩) (by assumption) ?_
                      rotate_left
                      · intro w hSw
                        try dsimp only at hSw
                        go_simp
                        try with_reducible rfl
                      try simp only [Act.put, List.setIfInBounds_toArray, List.set_cons_zero, List.set_cons_succ]
                      refine wpAnyH_take (i := 4) (oi := { dst := some 52, op := _, type := _, pos := _, after := _, guard := _ }) (v := ?_) rfl (by kernel_rfl) (by kernel_rfl) (by kernel_rfl) (fun _ _ _ h => h) (Or.inl ⟨by rfl, ?_⟩) (by assumption) ?_
                      rotate_left
                      · intro w hSw
                        try dsimp only at hSw
                        go_simp
                        try with_reducible rfl
                      try simp only [Act.put, List.setIfInBounds_toArray, List.set_cons_zero, List.set_cons_succ]
                      refine wpAnyH_take (i := 5) (oi := { dst := some 53, op := _, type := _, pos := _, after := _, guard := _ }) (v := ?_) rfl (by kernel_rfl) (by kernel_rfl) (by kernel_rfl) (fun _ _ _ h => h) (Or.inl ⟨by rfl, ?_⟩) (by assumption) ?_
                      rotate_left
                      · intro w hSw
                        try dsimp only at hSw
                        go_simp
                        try with_reducible rfl
                      try simp only [Act.put, List.setIfInBounds_toArray, List.set_cons_zero, List.set_cons_succ]
                      refine wpAnyH_take (i := 6) (oi := { dst := some 54, op := _, type := _, pos := _, after := _, guard := _ }) (v := ?_) rfl (by kernel_rfl) (by kernel_rfl) (by kernel_rfl) (fun _ _ _ h => h) (Or.inl ⟨by rfl, ?_⟩) (by assumption) ?_
                      rotate_left
                      · intro w hSw
                        try dsimp only at hSw
                        go_simp
                        try with_reducible rfl
                      try simp only [Act.put, List.setIfInBounds_toArray, List.set_cons_zero, List.set_cons_succ]
                      refine wpAnyH_take (i := 8) (oi := { dst := some 56, op := _, type := _, pos := _, after := _, guard := _ }) (v := ?_) rfl (by kernel_rfl) (by kernel_rfl) (by kernel_rfl) (fun _ _ _ h => h) (Or.inl ⟨by rfl, ?_⟩) (by assumption) ?_
                      rotate_left
                      · intro w hSw
                        try dsimp only at hSw
                        go_simp
                        try with_reducible rfl
                      try simp only [Act.put, List.setIfInBounds_toArray, List.set_cons_zero, List.set_cons_succ]
                      refine wpAnyH_take (i := 9) (oi := { dst := some 57, op := _, type := _, pos := _, after := _, guard := _ }) (v := ?_) rfl (by kernel_rfl) (by kernel_rfl) (by kernel_rfl) (fun _ _ _ h => h) (Or.inl ⟨by rfl, ?_⟩) (by assumption) ?_
                      rotate_left
                      · intro w hSw
                        try dsimp only at hSw
                        go_simp
                        try with_reducible rfl
                      try simp only [Act.put, List.setIfInBounds_toArray, List.set_cons_zero, List.set_cons_succ]
                      refine wpAnyH_ready (rs := [7]) (by kernel_rfl) (by simp) ?_
                      refine AllReadyH.cons rfl (fun K hK => ?_) AllReadyH.nil
                      go_simp
                      refine (rLower_s a _ (by have := HZ.out.2.2.1; omega)).mono ?_
                      rintro e v2 ⟨rfl, hb⟩
                      rw [HLa.out]
                      have HKp := Lib.hid (hHeld.2.out.step hb)
                      clear hb
                      go_wp2_with fail
                      refine hK.out _ _ ?_ (fun hHeld => ?_)
                      · exact HSt.out _ HKp.out
                      clear hK K
                      try simp only [Act.put, List.setIfInBounds_toArray, List.set_cons_zero, List.set_cons_succ]
                      refine wpAnyH_take (i := 10) (oi := { dst := some 58, op := _, type := _, pos := _, after := _, guard := _ }) (v := ?_) rfl (by kernel_rfl) (by kernel_rfl) (by kernel_rfl) (fun _ _ _ h => h) (Or.inl ⟨by rfl, ?_⟩) (by assumption) ?_
                      rotate_left
                      · intro w hSw
                        try dsimp only at hSw
                        go_simp
                        try with_reducible rfl
                      try simp only [Act.put, List.setIfInBounds_toArray, List.set_cons_zero, List.set_cons_succ]
                      refine wpAnyH_take (i := 11) (oi := { dst := some 59, op := _, type := _, pos := _, after := _, guard := _ }) (v := ?_) rfl (by kernel_rfl) (by kernel_rfl) (by kernel_rfl) (fun _ _ _ h => h) (Or.inl ⟨by rfl, ?_⟩) (by assumption) ?_
                      rotate_left
                      · intro w hSw
                        try dsimp only at hSw
                        go_simp
                        try with_reducible rfl
                      try simp only [Act.put, List.setIfInBounds_toArray, List.set_cons_zero, List.set_cons_succ]
                      refine wpAnyH_done (by kernel_rfl) ?_ _
                      have c7 := (at8_box hHeld.2.out.box).c7
                      dsimp only at c7
                      go_wp2_with fail
                      refine (rClean_s v _ (by have := HZ.out.2.2.2; omega)).mono ?_
                      rintro e w5 ⟨rfl, rfl⟩
                      rw [HCb.out]
                      cases bc
                      · go_wp2_with fail
                        go_ret
                        exact ⟨by rw [HE3.out]; rfl, hHeld.2.out.low⟩
                      · go_wp2_with fail
                        go_ret
                        exact ⟨by rw [HE3.out]; rfl, hHeld.2.out.low⟩
                  · rw [decide_eq_true (p := la ≠ a) hl] at l0
                    rw [decide_eq_false hl] at l1
                    have HE3 := Lib.hid (show rc = 5 from HE2.out.trans (if_pos (.inr hl)))
                    clear hl
                    rcases hE with e4 | ⟨e4, e5⟩
                    all_goals
                      go_wp2_with fail
                      have S0 := HSt.out _ HK.out.drew
                      clear c0 c1 c2 c3 c4 c5 c6 c7
                      refine wp_region_held_drew (S := fun V => V.cell? ⟨w.heap.size, 6, none⟩ = some (.string a) ∧ Hid (BxG w w.heap.size ⟨(t, s, r), o, i, n, a, v⟩ V)) (by kernel_rfl) (S0) (fun hS => ?_)
                      refine wpAnyH_take (i := 0) (oi := { dst := some 48, op := _, type := _, pos := _, after := _, guard := _ }) (v := ?_) rfl (by kernel_rfl) (by kernel_rfl) (by kernel_rfl) (fun _ _ _ h => h) (Or.inl ⟨by rfl, ?_⟩) (by assumption) ?_
                      rotate_left
                      · intro w hSw
                        try dsimp only at hSw
                        go_simp
                        try with_reducible rfl
                      try simp only [Act.put, List.setIfInBounds_toArray, List.set_cons_zero, List.set_cons_succ]
                      refine wpAnyH_take (i := 1) (oi := { dst := some 49, op := _, type := _, pos := _, after := _, guard := _ }) (v := ?_) rfl (by kernel_rfl) (by kernel_rfl) (by kernel_rfl) (fun _ _ _ h => h) (Or.inl ⟨by rfl, ?_⟩) (by assumption) ?_
                      rotate_left
                      · intro w hSw
                        try dsimp only at hSw
                        go_simp
                        try with_reducible rfl
                      try simp only [Act.put, List.setIfInBounds_toArray, List.set_cons_zero, List.set_cons_succ]
                      refine wpAnyH_ready (rs := [2]) (by kernel_rfl) (by simp) ?_
                      refine AllReadyH.cons rfl (fun K hK => ?_) AllReadyH.nil
                      go_simp
                      refine (rName_s a _ (by have := HZ.out.2.2.1; omega)).mono ?_
                      rintro e v1 ⟨rfl, rfl⟩
                      rw [HNb.out]
                      go_wp2_with fail
                      refine hK.out _ _ ?_ (fun hHeld => ?_)
                      · exact hS
                      clear hK K
                      try simp only [Act.put, List.setIfInBounds_toArray, List.set_cons_zero, List.set_cons_succ]
                      refine wpAnyH_take (i := 3) (oi := { dst := some 51, op := _, type := _, pos := _, after := _, guard := _ }) (v := ?_) rfl (by kernel_rfl) (by kernel_rfl) (by kernel_rfl) (fun _ _ _ h => h) (Or.inl ⟨by rfl, ?_⟩) (by assumption) ?_
                      rotate_left
                      · intro w hSw
                        try dsimp only at hSw
                        go_simp
                        try with_reducible rfl
                      try simp only [Act.put, List.setIfInBounds_toArray, List.set_cons_zero, List.set_cons_succ]
                      refine wpAnyH_take (i := 4) (oi := { dst := some 52, op := _, type := _, pos := _, after := _, guard := _ }) (v := ?_) rfl (by kernel_rfl) (by kernel_rfl) (by kernel_rfl) (fun _ _ _ h => h) (Or.inl ⟨by rfl, ?_⟩) (by assumption) ?_
                      rotate_left
                      · intro w hSw
                        try dsimp only at hSw
                        go_simp
                        try with_reducible rfl
                      try simp only [Act.put, List.setIfInBounds_toArray, List.set_cons_zero, List.set_cons_succ]
                      refine wpAnyH_take (i := 5) (oi := { dst := some 53, op := _, type := _, pos := _, after := _, guard := _ }) (v := ?_) rfl (by kernel_rfl) (by kernel_rfl) (by kernel_rfl) (fun _ _ _ h => h) (Or.inl ⟨by rfl, ?_⟩) (by assumption) ?_
                      rotate_left
                      · intro w hSw
                        try dsimp only at hSw
                        go_simp
                        try with_reducible rfl
                      try simp only [Act.put, List.setIfInBounds_toArray, List.set_cons_zero, List.set_cons_succ]
                      refine wpAnyH_take (i := 6) (oi := { dst := some 54, op := _, type := _, pos := _, after := _, guard := _ }) (v := ?_) rfl (by kernel_rfl) (by kernel_rfl) (by kernel_rfl) (fun _ _ _ h => h) (Or.inl ⟨by rfl, ?_⟩) (by assumption) ?_
                      rotate_left
                      · intro w hSw
                        try dsimp only at hSw
                        go_simp
                        try with_reducible rfl
                      try simp only [Act.put, List.setIfInBounds_toArray, List.set_cons_zero, List.set_cons_succ]
                      refine wpAnyH_take (i := 8) (oi := { dst := some 56, op := _, type := _, pos := _, after := _, guard := _ }) (v := ?_) rfl (by kernel_rfl) (by kernel_rfl) (by kernel_rfl) (fun _ _ _ h => h) (Or.inl ⟨by rfl, ?_⟩) (by assumption) ?_
                      rotate_left
                      · intro w hSw
                        try dsimp only at hSw
                        go_simp
                        try with_reducible rfl
                      try simp only [Act.put, List.setIfInBounds_toArray, List.set_cons_zero, List.set_cons_succ]
                      refine wpAnyH_take (i := 9) (oi := { dst := some 57, op := _, type := _, pos := _, after := _, guard := _ }) (v := ?_) rfl (by kernel_rfl) (by kernel_rfl) (by kernel_rfl) (fun _ _ _ h => h) (Or.inl ⟨by rfl, ?_⟩) (by assumption) ?_
                      rotate_left
                      · intro w hSw
                        try dsimp only at hSw
                        go_simp
                        try with_reducible rfl
                      try simp only [Act.put, List.setIfInBounds_toArray, List.set_cons_zero, List.set_cons_succ]
                      refine wpAnyH_ready (rs := [7]) (by kernel_rfl) (by simp) ?_
                      refine AllReadyH.cons rfl (fun K hK => ?_) AllReadyH.nil
                      go_simp
                      refine (rLower_s a _ (by have := HZ.out.2.2.1; omega)).mono ?_
                      rintro e v2 ⟨rfl, hb⟩
                      rw [HLa.out]
                      have HKp := Lib.hid (hHeld.2.out.step hb)
                      clear hb
                      go_wp2_with fail
                      refine hK.out _ _ ?_ (fun hHeld => ?_)
                      · exact HSt.out _ HKp.out
                      clear hK K
                      try simp only [Act.put, List.setIfInBounds_toArray, List.set_cons_zero, List.set_cons_succ]
                      refine wpAnyH_take (i := 10) (oi := { dst := some 58, op := _, type := _, pos := _, after := _, guard := _ }) (v := ?_) rfl (by kernel_rfl) (by kernel_rfl) (by kernel_rfl) (fun _ _ _ h => h) (Or.inl ⟨by rfl, ?_⟩) (by assumption) ?_
                      rotate_left
                      · intro w hSw
                        try dsimp only at hSw
                        go_simp
                        try with_reducible rfl
                      try simp only [Act.put, List.setIfInBounds_toArray, List.set_cons_zero, List.set_cons_succ]
                      refine wpAnyH_take (i := 11) (oi := { dst := some 59, op := _, type := _, pos := _, after := _, guard := _ }) (v := ?_) rfl (by kernel_rfl) (by kernel_rfl) (by kernel_rfl) (fun _ _ _ h => h) (Or.inl ⟨by rfl, ?_⟩) (by assumption) ?_
                      rotate_left
                      · intro w hSw
                        try dsimp only at hSw
                        go_simp
                        try with_reducible rfl
                      try simp only [Act.put, List.setIfInBounds_toArray, List.set_cons_zero, List.set_cons_succ]
                      refine wpAnyH_done (by kernel_rfl) ?_ _
                      go_wp2_with fail
                      go_ret
                      exact ⟨by rw [HE3.out]; rfl, hHeld.2.out.low⟩
            · have HE := Lib.hid (show rc = if n = nilS ∨ Nam.normB n = false then 5 else 0 from by rw [← hrc, chk_rest (g := ⟨(t, s, r), o, i, n, a, v⟩) hbv (show ¬ o < 1 by omega) (show ¬ 5 < o by omega) hbi hbu, if_pos hN])
              clear hrc hbv hbi hbu d1 d5 h1 h5 HU HR
              have e0 := nil_emp n
              have e1 := nil_eq n
              unfold useN at hN
              simp only [Bool.or_eq_true, decide_eq_true_eq] at hN
              by_cases hn : n = nilS
              · rw [decide_eq_true hn] at e0 e1
                have HE2 := Lib.hid (show rc = 5 from HE.out.trans (if_pos (.inl hn)))
                clear hn
                rcases hN with rfl | rfl
                all_goals
                  go_wp2_with fail
                  go_ret
                  exact ⟨by rw [HE2.out]; rfl, HK.out.low⟩
              · rw [decide_eq_false hn] at e0 e1
                obtain ⟨bn, hbn⟩ : ∃ x, Nam.normB n = x := ⟨_, rfl⟩
                have HNb := Lib.hid hbn
                have HE2 := Lib.hid (show rc = if bn = false then 5 else 0 from by rw [HE.out, hbn]; simp [hn])
                clear hn hbn
                rcases hN with rfl | rfl
                all_goals
                  go_wp2_with fail
                  refine (Nam.rvalid_s n _ (by have := HZ.out.2.1; omega)).mono ?_
                  rintro e w4 ⟨rfl, hb⟩
                  rw [HNb.out]
                  have HK := Lib.hid (HK.out.step hb)
                  clear hb
                  cases bn
                  · go_wp2_with fail
                    go_ret
                    exact ⟨by rw [HE2.out]; rfl, HK.out.low⟩
                  · clear c0 c1 c2 c4 c5 c6 c7
                    go_wp2_with fail
                    go_ret
                    exact ⟨by rw [HE2.out]; rfl, HK.out.low⟩
          · have HE := Lib.hid (show rc = 4 from by rw [← hrc]; exact chk_form hbv (show ¬ o < 1 by omega) (show ¬ 5 < o by omega) (.inr hbu))
            clear hrc hbv hbi hbu
            go_wp2_with fail
            go_ret
            exact ⟨by rw [HE.out]; rfl, HK.out.low⟩
        · have HE := Lib.hid (show rc = 4 from by rw [← hrc]; exact chk_form hbv (show ¬ o < 1 by omega) (show ¬ 5 < o by omega) (.inl (by rw [← HI.out]; exact decide_eq_false hp0)))
          have p0 : (pe != 0) = true := by simpa using hp0
          clear hrc hbv hp0
          go_wp2_with fail
          go_ret
          exact ⟨by rw [HE.out]; rfl, HK.out.low⟩
end Go.Proofs.YtbkignlbcneddaaGreatDoor
end

section
/-
  Contracts of the kinds' words: the specification's word, the program's readOp; the program's variable of words. No condition.
-/
set_option maxRecDepth 100000
namespace Go.Proofs.YtbkignlbcneddaaGreatDoor
open Go.RowKit Go.PlainAid
open Csn (Cn cnV KbC kbc_new box_below box_lt parEC parVC vldC)
/-- the program's variable holds the words of the kinds -/
def OpOk (w : World) : Prop := ∀ k : Nat, k < 5 → w.cell? ⟨0, k, none⟩ = some (.string (wordW ((k : Int) + 1)))
theorem OpOk.lt {w : World} (h : OpOk w) : 0 < w.heap.size := World.block_lt_of_cell? w _ (h 0 (by omega))
theorem OpOk.below {w w' : World} (h : OpOk w) (hb : Below w.heap.size w w') : OpOk w' := fun k hk => cell_later hb (h k hk)
theorem word_s (o : Int) (w : World) (h1 : 1 ≤ o) (h5 : o ≤ 5) :
    Calls Tryz.prog 43 #[.int .i64 o] w fun e w' => e = .returned (.string (wordW o)) ∧ Below w.heap.size w w' := by
  have HB := Lib.hid (box_below w (.cells #[.string ⟨#[99, 114, 101, 97, 116, 101]⟩, .string ⟨#[114, 101, 109, 111, 118, 101]⟩, .string ⟨#[114, 101, 110, 97, 109, 101]⟩, .string ⟨#[112, 117, 116]⟩, .string ⟨#[100, 114, 111, 112]⟩] 9))
  rcases (show o = 1 ∨ o = 2 ∨ o = 3 ∨ o = 4 ∨ o = 5 by omega) with rfl | rfl | rfl | rfl | rfl
  all_goals
    go_enter Tryz.func43, Tryz.ntmps43
    go_wp2_with fail
    go_ret
    exact ⟨rfl, HB.out⟩
set_option maxHeartbeats 4000000 in
theorem readOp_s (s : ByteArray) (w : World) (ho : OpOk w) :
    Calls Tryz.prog 94 #[.string s] w fun e w' => e = .returned (.int .i64 (opW s)) ∧ Below w.heap.size w w' := by
  have c0 : w.cell? ⟨0, 0, none⟩ = some (.string createW) := ho 0 (by decide)
  have c1 : w.cell? ⟨0, 1, none⟩ = some (.string removeW) := ho 1 (by decide)
  have c2 : w.cell? ⟨0, 2, none⟩ = some (.string renameW) := ho 2 (by decide)
  have c3 : w.cell? ⟨0, 3, none⟩ = some (.string putW) := ho 3 (by decide)
  have c4 : w.cell? ⟨0, 4, none⟩ = some (.string dropW) := ho 4 (by decide)
  have d0 := str_eq createW s
  have d1 := str_eq removeW s
  have d2 := str_eq renameW s
  have d3 := str_eq putW s
  have d4 := str_eq dropW s
  have HO : Hid (opW s = if s = createW then 1 else if s = removeW then 2 else if s = renameW then 3 else if s = putW then 4 else if s = dropW then 5 else 0) := Lib.hid rfl
  clear ho
  generalize createW = a0 at c0 d0 HO
  generalize removeW = a1 at c1 d1 HO
  generalize renameW = a2 at c2 d2 HO
  generalize putW = a3 at c3 d3 HO
  generalize dropW = a4 at c4 d4 HO
  have i0 : ∀ w, (Instr.index 117 (.agg #[.string a0, .string a1, .string a2, .string a3, .string a4]) (.int .i64 0)).run Tryz.prog w = .ok (.string a0) w := fun w => by kernel_rfl
  have i1 : ∀ w, (Instr.index 117 (.agg #[.string a0, .string a1, .string a2, .string a3, .string a4]) (.int .i64 1)).run Tryz.prog w = .ok (.string a1) w := fun w => by kernel_rfl
  have i2 : ∀ w, (Instr.index 117 (.agg #[.string a0, .string a1, .string a2, .string a3, .string a4]) (.int .i64 2)).run Tryz.prog w = .ok (.string a2) w := fun w => by kernel_rfl
  have i3 : ∀ w, (Instr.index 117 (.agg #[.string a0, .string a1, .string a2, .string a3, .string a4]) (.int .i64 3)).run Tryz.prog w = .ok (.string a3) w := fun w => by kernel_rfl
  have i4 : ∀ w, (Instr.index 117 (.agg #[.string a0, .string a1, .string a2, .string a3, .string a4]) (.int .i64 4)).run Tryz.prog w = .ok (.string a4) w := fun w => by kernel_rfl
  obtain ⟨z, hz⟩ : ∃ x, opW s = x := ⟨_, rfl⟩
  rw [hz] at HO ⊢
  clear hz
  by_cases e0 : s = a0
  · have HZ := Lib.hid (show z = 1 from HO.out.trans (by exact if_pos e0))
    rw [decide_eq_true e0.symm] at d0
    clear e0 HO
    go_enter Tryz.func94, Tryz.ntmps94
    go_wp2_with fail
    refine wp_loop_rounds 6 ?_
    rw [rounds_succ]
    go_wp2_with fail
    go_ret
    exact ⟨by rw [HZ.out]; rfl, Below.refl _ _⟩
  · skip
    by_cases e1 : s = a1
    · have HZ := Lib.hid (show z = 2 from HO.out.trans (by rw [if_neg e0]; exact if_pos e1))
      rw [decide_eq_false (fun k => e0 k.symm)] at d0
      rw [decide_eq_true e1.symm] at d1
      clear e0 e1 HO
      go_enter Tryz.func94, Tryz.ntmps94
      go_wp2_with fail
      refine wp_loop_rounds 6 ?_
      rw [rounds_succ]
      go_wp2_with fail
      rw [rounds_succ]
      go_wp2_with fail
      go_ret
      exact ⟨by rw [HZ.out]; rfl, Below.refl _ _⟩
    · skip
      by_cases e2 : s = a2
      · have HZ := Lib.hid (show z = 3 from HO.out.trans (by rw [if_neg e0]; rw [if_neg e1]; exact if_pos e2))
        rw [decide_eq_false (fun k => e0 k.symm)] at d0
        rw [decide_eq_false (fun k => e1 k.symm)] at d1
        rw [decide_eq_true e2.symm] at d2
        clear e0 e1 e2 HO
        go_enter Tryz.func94, Tryz.ntmps94
        go_wp2_with fail
        refine wp_loop_rounds 6 ?_
        rw [rounds_succ]
        go_wp2_with fail
        rw [rounds_succ]
        go_wp2_with fail
        rw [rounds_succ]
        go_wp2_with fail
        go_ret
        exact ⟨by rw [HZ.out]; rfl, Below.refl _ _⟩
      · skip
        by_cases e3 : s = a3
        · have HZ := Lib.hid (show z = 4 from HO.out.trans (by rw [if_neg e0]; rw [if_neg e1]; rw [if_neg e2]; exact if_pos e3))
          rw [decide_eq_false (fun k => e0 k.symm)] at d0
          rw [decide_eq_false (fun k => e1 k.symm)] at d1
          rw [decide_eq_false (fun k => e2 k.symm)] at d2
          rw [decide_eq_true e3.symm] at d3
          clear e0 e1 e2 e3 HO
          go_enter Tryz.func94, Tryz.ntmps94
          go_wp2_with fail
          refine wp_loop_rounds 6 ?_
          rw [rounds_succ]
          go_wp2_with fail
          rw [rounds_succ]
          go_wp2_with fail
          rw [rounds_succ]
          go_wp2_with fail
          rw [rounds_succ]
          go_wp2_with fail
          go_ret
          exact ⟨by rw [HZ.out]; rfl, Below.refl _ _⟩
        · skip
          by_cases e4 : s = a4
          · have HZ := Lib.hid (show z = 5 from HO.out.trans (by rw [if_neg e0]; rw [if_neg e1]; rw [if_neg e2]; rw [if_neg e3]; exact if_pos e4))
            rw [decide_eq_false (fun k => e0 k.symm)] at d0
            rw [decide_eq_false (fun k => e1 k.symm)] at d1
            rw [decide_eq_false (fun k => e2 k.symm)] at d2
            rw [decide_eq_false (fun k => e3 k.symm)] at d3
            rw [decide_eq_true e4.symm] at d4
            clear e0 e1 e2 e3 e4 HO
            go_enter Tryz.func94, Tryz.ntmps94
            go_wp2_with fail
            refine wp_loop_rounds 6 ?_
            rw [rounds_succ]
            go_wp2_with fail
            rw [rounds_succ]
            go_wp2_with fail
            rw [rounds_succ]
            go_wp2_with fail
            rw [rounds_succ]
            go_wp2_with fail
            rw [rounds_succ]
            go_wp2_with fail
            go_ret
            exact ⟨by rw [HZ.out]; rfl, Below.refl _ _⟩
          · skip
            have HZ := Lib.hid (show z = 0 from HO.out.trans (by rw [if_neg e0, if_neg e1, if_neg e2, if_neg e3, if_neg e4]))
            rw [decide_eq_false (fun k => e0 k.symm)] at d0
            rw [decide_eq_false (fun k => e1 k.symm)] at d1
            rw [decide_eq_false (fun k => e2 k.symm)] at d2
            rw [decide_eq_false (fun k => e3 k.symm)] at d3
            rw [decide_eq_false (fun k => e4 k.symm)] at d4
            clear e0 e1 e2 e3 e4 HO
            go_enter Tryz.func94, Tryz.ntmps94
            go_wp2_with fail
            refine wp_loop_rounds 6 ?_
            rw [rounds_succ]
            go_wp2_with fail
            rw [rounds_succ]
            go_wp2_with fail
            rw [rounds_succ]
            go_wp2_with fail
            rw [rounds_succ]
            go_wp2_with fail
            rw [rounds_succ]
            go_wp2_with fail
            rw [rounds_succ]
            go_wp2_with fail
            go_ret
            exact ⟨by rw [HZ.out]; rfl, Below.refl _ _⟩
end Go.Proofs.YtbkignlbcneddaaGreatDoor
end
