/-
  Texts of the schema layer and of those beneath it, joined: ChgR1. Conditions stand at each contract.
-/
import Derived.Test.YtbkignlbcneddaaGreatDoorX20
set_option linter.unusedVariables false
set_option linter.unusedSimpArgs false
set_option linter.unnecessarySimpa false

section
/-
  Contract of change's readWords: the record of the words of a line, and whether they are possible. Condition: words of at most 1000000 bytes, at most 1100001 of them.
-/
set_option maxRecDepth 100000
namespace Go.Proofs.YtbkignlbcneddaaGreatDoor
open Go.RowKit Go.PlainAid
open Csn (Cn cnV cnB KbC kbc_new box_below box_lt parEC parVC vldC fmtS TzOk)
set_option maxHeartbeats 16000000 in
theorem readWordsN_s (ao : Option Addr) (n cap : Nat) (ws : List ByteArray) (w : World) (h : StrsAt w ao n cap ws) (h3 : 3 ≤ n) (hn : n ≤ 1100001) (hz : ∀ s ∈ ws, s.size ≤ 1000000) (ho : COk w) (hop : useN (opW (partAt ws 0)) = true) :
    Calls Tryz.prog 46 #[.slice ao n cap] w fun e w' => e = .returned (.tuple #[chV ((recG ws).getD zeroG), .bool (recG ws).isSome]) ∧ Below w.heap.size w w' := by
  have HR := Lib.hid (rec_N (by rw [h.1]; exact h3) hop)
  rw [h.1] at HR
  obtain ⟨bw, off, hao, hbw, hcs⟩ := h.2.2.2 (by omega)
  subst hao
  have HWs := Lib.hid h
  have HO := Lib.hid ho
  have HZ := Lib.hid (part_z hz)
  have hP0 := rwp_new h ho
  clear hcs hbw
  obtain ⟨w0, hw0⟩ : ∃ x, partAt ws 0 = x := ⟨_, rfl⟩
  obtain ⟨w1, hw1⟩ : ∃ x, partAt ws 1 = x := ⟨_, rfl⟩
  obtain ⟨w2, hw2⟩ : ∃ x, partAt ws 2 = x := ⟨_, rfl⟩
  obtain ⟨w3, hw3⟩ : ∃ x, partAt ws 3 = x := ⟨_, rfl⟩
  obtain ⟨w4, hw4⟩ : ∃ x, partAt ws 4 = x := ⟨_, rfl⟩
  have Z1 := HZ.out 1
  have Z3 := HZ.out 3
  have Z4 := HZ.out 4
  rw [hw1] at Z1
  rw [hw3] at Z3
  rw [hw4] at Z4
  have HZs := Lib.hid (And.intro Z1 (And.intro Z3 Z4))
  clear Z1 Z3 Z4 HZ hz ho h
  obtain ⟨⟨ca, cb, cc⟩, hcv⟩ : ∃ x, parVC w1.data.toList = x := ⟨_, rfl⟩
  obtain ⟨pe, hpe⟩ : ∃ x, parEC w1.data.toList = x := ⟨_, rfl⟩
  obtain ⟨o, hoo⟩ : ∃ x, opW w0 = x := ⟨_, rfl⟩
  obtain ⟨s3, hs3⟩ : ∃ x, unS w3 = x := ⟨_, rfl⟩
  obtain ⟨e3, he3⟩ : ∃ x, unE w3 = x := ⟨_, rfl⟩
  obtain ⟨s4, hs4⟩ : ∃ x, unS w4 = x := ⟨_, rfl⟩
  obtain ⟨e4, he4⟩ : ∃ x, unE w4 = x := ⟨_, rfl⟩
  rw [hw0] at hop HR
  rw [hw1, hw2, hw3] at HR
  skip
  rw [hoo] at hop HR
  rw [hcv, hpe, hs3, he3] at HR
  have HV := Lib.hid (And.intro hcv hpe)
  have HOo := Lib.hid hoo
  have HU := Lib.hid (And.intro hs3 (And.intro he3 (And.intro hs4 he4)))
  have HWd := Lib.hid (And.intro hw0 (And.intro hw1 (And.intro hw2 (And.intro hw3 hw4))))
  clear hw0 hw1 hw2 hw3 hw4 hcv hpe hoo hs3 he3 hs4 he4
  have HP := Lib.hid hP0
  rw [zero_is] at hP0
  clear hP0
  have HCell := Lib.hid (show ∀ V : World, RwP w w.heap.size (some ⟨bw, off, none⟩) n cap ws V → ∀ j, j < n → V.cell? ⟨bw, off + j, none⟩ = some (.string (partAt ws j)) from fun V h j hj => by
    obtain ⟨b', o', e', _, hc⟩ := h.wds.2.2.2 (by omega)
    cases e'
    exact hc j (by rw [h.wds.1]; exact hj))
  have d3 : ¬ (n : Int) < 3 := by omega
  have l0 : (0 : Int) < (n : Int) := by omega
  have l0n : 0 < n := by omega
  have l1 : (1 : Int) < (n : Int) := by omega
  have l2 : (2 : Int) < (n : Int) := by omega
  have k1 := HCell.out _ HP.out 1 (by omega)
  rw [HWd.out.2.1] at k1
  rw [zero_is] at HP k1
  go_enter Tryz.func46, Tryz.ntmps46
  go_wp2_with fail
  clear k1
  generalize w.alloc (.cells #[.int .i64 0, .int .i64 0, .int .i64 0, .int .i64 0, .string ⟨#[]⟩, .string ⟨#[]⟩, .string ⟨#[]⟩, .string ⟨#[]⟩] 26) = W0 at HP ⊢
  refine (parse_k w1 ca cb cc pe W0 HZs.out.1 HP.out.ok.mx HV.out.1 HV.out.2).mono ?_
  rintro e v1 ⟨rfl, hb⟩
  have HP := Lib.hid (HP.out.step hb)
  clear hb
  have hb4 := box_below v1 (.cells #[.int .i64 ca, .int .i64 cb, .int .i64 cc] 23)
  have HB4 := Lib.hid (kbc_new v1 (.cells #[.int .i64 ca, .int .i64 cb, .int .i64 cc] 23))
  have HP := Lib.hid (HP.out.step hb4)
  clear hb4
  go_wp2_with fail
  generalize v1.alloc (.cells #[.int .i64 ca, .int .i64 cb, .int .i64 cc] 23) = W1 at HP HB4 ⊢
  have HL1 := Lib.hid (Csn.KbC.big HP.out.res)
  have HSt := Lib.hid (show ∀ V X : World, (RwP w w.heap.size (some ⟨bw, off, none⟩) n cap ws V ∧ KbC V v1.heap.size (.cells #[.int .i64 ca, .int .i64 cb, .int .i64 cc] 23)) → Below V.heap.size V X → (fun V => V.cell? ⟨v1.heap.size, 0, none⟩ = some (.int .i64 ca) ∧ V.cell? ⟨v1.heap.size, 1, none⟩ = some (.int .i64 cb) ∧ V.cell? ⟨v1.heap.size, 2, none⟩ = some (.int .i64 cc) ∧ V.cell? ⟨bw, off, none⟩ = some (.string w0) ∧ V.cell? ⟨bw, off + 2, none⟩ = some (.string w2) ∧ Hid (RwP w w.heap.size (some ⟨bw, off, none⟩) n cap ws V ∧ KbC V v1.heap.size (.cells #[.int .i64 ca, .int .i64 cb, .int .i64 cc] 23))) X from fun V X h hb => ⟨(Csn.KbC.step h.2 hb).cell rfl, (Csn.KbC.step h.2 hb).cell rfl, (Csn.KbC.step h.2 hb).cell rfl, by have := HCell.out X (h.1.step hb) 0 (by omega); rw [HWd.out.1] at this; exact this, by have := HCell.out X (h.1.step hb) 2 (by omega); rw [HWd.out.2.2.1] at this; exact this, Lib.hid ⟨h.1.step hb, Csn.KbC.step h.2 hb⟩⟩)
  have HQ : Hid (RwP w w.heap.size (some ⟨bw, off, none⟩) n cap ws W1 ∧ KbC W1 v1.heap.size (.cells #[.int .i64 ca, .int .i64 cb, .int .i64 cc] 23)) := Lib.hid ⟨HP.out, HB4.out⟩
  go_cut [6] (fun pv wx => ∃ b6 : Nat, pv = .pointer (some ⟨b6, 0, none⟩) ∧ Hid (w.heap.size < b6 ∧ RwP w w.heap.size (some ⟨bw, off, none⟩) n cap ws wx ∧ KbC wx b6 (.cells #[.int .i64 ca, .int .i64 cb, .int .i64 cc, .int .i64 o, .string w2, .string ⟨#[]⟩, .string ⟨#[]⟩, .string ⟨#[]⟩] 26)))
  case first =>
    have S0 := HSt.out _ _ HQ.out (Below.refl _ _).drew
    have HQd := Lib.hid S0.2.2.2.2.2.out
    refine wp_region_held_drew (S := fun V => V.cell? ⟨v1.heap.size, 0, none⟩ = some (.int .i64 ca) ∧ V.cell? ⟨v1.heap.size, 1, none⟩ = some (.int .i64 cb) ∧ V.cell? ⟨v1.heap.size, 2, none⟩ = some (.int .i64 cc) ∧ V.cell? ⟨bw, off, none⟩ = some (.string w0) ∧ V.cell? ⟨bw, off + 2, none⟩ = some (.string w2) ∧ Hid (RwP w w.heap.size (some ⟨bw, off, none⟩) n cap ws V ∧ KbC V v1.heap.size (.cells #[.int .i64 ca, .int .i64 cb, .int .i64 cc] 23))) (by kernel_rfl) (S0) (fun hS => ?_)
    refine wpAnyH_take (i := 0) (oi := { dst := some 21, op := _, type := _, pos := _, after := _, guard := _ }) (v := ?_) rfl (by kernel_rfl) (by kernel_rfl) (by kernel_rfl) (fun _ _ _ h => h) (Or.inl ⟨by rfl, ?_⟩) (by assumption) ?_
    rotate_left
    · intro w hSw
      try dsimp only at hSw
      go_simp
      try with_reducible rfl
    try simp only [Act.put, List.setIfInBounds_toArray, List.set_cons_zero, List.set_cons_succ]
    refine wpAnyH_take (i := 1) (oi := { dst := some 22, op := _, type := _, pos := _, after := _, guard := _ }) (v := ?_) rfl (by kernel_rfl) (by kernel_rfl) (by kernel_rfl) (fun _ _ _ h => h) (Or.inl ⟨by rfl, ?_⟩) (by assumption) ?_
    rotate_left
    · intro w hSw
      try dsimp only at hSw
      go_simp
      try with_reducible rfl
    try simp only [Act.put, List.setIfInBounds_toArray, List.set_cons_zero, List.set_cons_succ]
    refine wpAnyH_take (i := 2) (oi := { dst := some 23, op := _, type := _, pos := _, after := _, guard := _ }) (v := ?_) rfl (by kernel_rfl) (by kernel_rfl) (by kernel_rfl) (fun _ _ _ h => h) (Or.inl ⟨by rfl, ?_⟩) (by assumption) ?_
    rotate_left
    · intro w hSw
      try dsimp only at hSw
      go_simp
      try with_reducible rfl
    try simp only [Act.put, List.setIfInBounds_toArray, List.set_cons_zero, List.set_cons_succ]
    refine wpAnyH_take (i := 3) (oi := { dst := some 24, op := _, type := _, pos := _, after := _, guard := _ }) (v := ?_) rfl (by kernel_rfl) (by kernel_rfl) (by kernel_rfl) (fun _ _ _ h => h) (Or.inl ⟨by rfl, ?_⟩) (by assumption) ?_
    rotate_left
    · intro w hSw
      try dsimp only at hSw
      go_simp
      try with_reducible rfl
    try simp only [Act.put, List.setIfInBounds_toArray, List.set_cons_zero, List.set_cons_succ]
    refine wpAnyH_take (i := 5) (oi := { dst := some 26, op := _, type := _, pos := _, after := _, guard := _ }) (v := ?_) rfl (by kernel_rfl) (by kernel_rfl) (by kernel_rfl) (fun _ _ _ h => h) (Or.inl ⟨by rfl, ?_⟩) (by assumption) ?_
    rotate_left
    · intro w hSw
      try dsimp only at hSw
      go_simp
      try with_reducible rfl
    try simp only [Act.put, List.setIfInBounds_toArray, List.set_cons_zero, List.set_cons_succ]
    refine wpAnyH_take (i := 6) (oi := { dst := some 27, op := _, type := _, pos := _, after := _, guard := _ }) (v := ?_) rfl (by kernel_rfl) (by kernel_rfl) (by kernel_rfl) (fun _ _ _ h => h) (Or.inl ⟨by rfl, ?_⟩) (by assumption) ?_
    rotate_left
    · intro w hSw
      try dsimp only at hSw
      go_simp
      try with_reducible rfl
    try simp only [Act.put, List.setIfInBounds_toArray, List.set_cons_zero, List.set_cons_succ]
    refine wpAnyH_take (i := 7) (oi := { dst := some 28, op := _, type := _, pos := _, after := _, guard := _ }) (v := ?_) rfl (by kernel_rfl) (by kernel_rfl) (by kernel_rfl) (fun _ _ _ h => h) (Or.inl ⟨by rfl, ?_⟩) (by assumption) ?_
    rotate_left
    · intro w hSw
      try dsimp only at hSw
      go_simp
      try with_reducible rfl
    try simp only [Act.put, List.setIfInBounds_toArray, List.set_cons_zero, List.set_cons_succ]
    refine wpAnyH_ready (rs := [4, 9]) (by kernel_rfl) (by simp) ?_
    refine AllReadyH.cons rfl (fun K hK => ?_) (AllReadyH.cons rfl (fun K hK => ?_) AllReadyH.nil)
    · go_simp
      refine (readOp_k w0 o _ hS.2.2.2.2.2.out.1.ok.op HOo.out).mono ?_
      rintro _ v2 ⟨rfl, hb⟩
      have HQ2 := Lib.hid (HSt.out _ _ hS.2.2.2.2.2.out hb).2.2.2.2.2.out
      have HbD := Lib.hid hb
      clear hb
      go_wp2_with fail
      refine hK.out _ _ ?_ (fun hHeld => ?_)
      · exact HSt.out _ _ HQ2.out (Below.refl _ _)
      clear hK K
      try simp only [Act.put, List.setIfInBounds_toArray, List.set_cons_zero, List.set_cons_succ]
      refine wpAnyH_take (i := 8) (oi := { dst := some 29, op := _, type := _, pos := _, after := _, guard := _ }) (v := ?_) rfl (by kernel_rfl) (by kernel_rfl) (by kernel_rfl) (fun _ _ _ h => h) (Or.inl ⟨by rfl, ?_⟩) (by assumption) ?_
      rotate_left
      · intro w hSw
        try dsimp only at hSw
        go_simp
        try with_reducible rfl
      try simp only [Act.put, List.setIfInBounds_toArray, List.set_cons_zero, List.set_cons_succ]
      refine wpAnyH_ready (rs := [9]) (by kernel_rfl) (by simp) ?_
      refine AllReadyH.cons rfl (fun K hK => ?_) AllReadyH.nil
      go_simp
      refine hK.out _ _ ?_ (fun hHeld => ?_)
      · exact HSt.out _ _ HQ2.out (box_below _ _)
      clear hK K
      skip
      try simp only [Act.put, List.setIfInBounds_toArray, List.set_cons_zero, List.set_cons_succ]
      refine wpAnyH_ready (rs := [10]) (by kernel_rfl) (by simp) ?_
      refine AllReadyH.cons rfl (fun K hK => ?_) AllReadyH.nil
      go_simp
      refine hK.out _ _ ?_ (fun hHeld => ?_)
      · exact HSt.out _ _ HQ2.out (box_below _ _)
      clear hK K
      have HB6 := Lib.hid (kbc_new v2 (.cells #[.int .i64 ca, .int .i64 cb, .int .i64 cc, .int .i64 o, .string w2, .string ⟨#[]⟩, .string ⟨#[]⟩, .string ⟨#[]⟩] 26))
      have HQ3 := Lib.hid (HSt.out _ _ HQ2.out (box_below v2 (.cells #[.int .i64 ca, .int .i64 cb, .int .i64 cc, .int .i64 o, .string w2, .string ⟨#[]⟩, .string ⟨#[]⟩, .string ⟨#[]⟩] 26))).2.2.2.2.2.out
      have HL6 := Lib.hid (Nat.lt_of_lt_of_le HL1.out HbD.out.size)
      try simp only [Act.put, List.setIfInBounds_toArray, List.set_cons_zero, List.set_cons_succ]
      refine wpAnyH_done (by kernel_rfl) ?_ _
      go_wp2_with fail
      go_meet
      exact ⟨_, rfl, Lib.hid ⟨HL6.out, HQ3.out.1, HB6.out⟩⟩
    · go_simp
      refine hK.out _ _ ?_ (fun hHeld => ?_)
      · exact HSt.out _ _ HQd.out (box_below _ _)
      clear hK K
      have HY := Lib.hid (show Below W1.drew.heap.size W1.drew (W1.alloc (.cells #[.int .i64 0, .int .i64 0, .int .i64 0, .int .i64 0, .string ⟨#[]⟩, .string ⟨#[]⟩, .string ⟨#[]⟩, .string ⟨#[]⟩] 26)).drew from box_below W1.drew (.cells #[.int .i64 0, .int .i64 0, .int .i64 0, .int .i64 0, .string ⟨#[]⟩, .string ⟨#[]⟩, .string ⟨#[]⟩, .string ⟨#[]⟩] 26))
      have HZZ : Hid (KbC (W1.alloc (.cells #[.int .i64 0, .int .i64 0, .int .i64 0, .int .i64 0, .string ⟨#[]⟩, .string ⟨#[]⟩, .string ⟨#[]⟩, .string ⟨#[]⟩] 26)).drew W1.heap.size (.cells #[.int .i64 0, .int .i64 0, .int .i64 0, .int .i64 0, .string ⟨#[]⟩, .string ⟨#[]⟩, .string ⟨#[]⟩, .string ⟨#[]⟩] 26)) := Lib.hid (kbc_new W1.drew _)
      try simp only [Act.put, List.setIfInBounds_toArray, List.set_cons_zero, List.set_cons_succ]
      refine wpAnyH_ready (rs := [4]) (by kernel_rfl) (by simp) ?_
      refine AllReadyH.cons rfl (fun K hK => ?_) AllReadyH.nil
      go_simp
      refine (readOp_k w0 o _ hHeld.2.2.2.2.2.out.1.ok.op HOo.out).mono ?_
      rintro _ v2 ⟨rfl, hb⟩
      have HQ2 := Lib.hid (HSt.out _ _ hHeld.2.2.2.2.2.out hb).2.2.2.2.2.out
      have HY := Lib.hid (HY.out.trans (hb.mono HY.out.size))
      have HZZ := Lib.hid (Csn.KbC.step HZZ.out hb)
      clear hb
      have gf : ∀ j, v2.frozen? ⟨W1.heap.size, j, none⟩ = false := fun j => Csn.KbC.frz HZZ.out
      have g0 : v2.cell? ⟨W1.heap.size, 0, none⟩ = some (.int .i64 0) := Csn.KbC.cell HZZ.out rfl
      have g1 : v2.cell? ⟨W1.heap.size, 1, none⟩ = some (.int .i64 0) := Csn.KbC.cell HZZ.out rfl
      have g2 : v2.cell? ⟨W1.heap.size, 2, none⟩ = some (.int .i64 0) := Csn.KbC.cell HZZ.out rfl
      have g3 : v2.cell? ⟨W1.heap.size, 3, none⟩ = some (.int .i64 0) := Csn.KbC.cell HZZ.out rfl
      have g4 : v2.cell? ⟨W1.heap.size, 4, none⟩ = some (.string ⟨#[]⟩) := Csn.KbC.cell HZZ.out rfl
      have g5 : v2.cell? ⟨W1.heap.size, 5, none⟩ = some (.string ⟨#[]⟩) := Csn.KbC.cell HZZ.out rfl
      have g6 : v2.cell? ⟨W1.heap.size, 6, none⟩ = some (.string ⟨#[]⟩) := Csn.KbC.cell HZZ.out rfl
      have g7 : v2.cell? ⟨W1.heap.size, 7, none⟩ = some (.string ⟨#[]⟩) := Csn.KbC.cell HZZ.out rfl
      go_wp2_with fail
      refine hK.out _ _ ?_ (fun hHeld => ?_)
      · exact HSt.out _ _ HQ2.out (Below.refl _ _)
      clear hK K
      try simp only [Act.put, List.setIfInBounds_toArray, List.set_cons_zero, List.set_cons_succ]
      refine wpAnyH_take (i := 8) (oi := { dst := some 29, op := _, type := _, pos := _, after := _, guard := _ }) (v := ?_) rfl (by kernel_rfl) (by kernel_rfl) (by kernel_rfl) (fun _ _ _ h => h) (Or.inl ⟨by rfl, ?_⟩) (by assumption) ?_
      rotate_left
      · intro w hSw
        try dsimp only at hSw
        go_simp
        try with_reducible rfl
      try simp only [Act.put, List.setIfInBounds_toArray, List.set_cons_zero, List.set_cons_succ]
      refine wpAnyH_ready (rs := [10]) (by kernel_rfl) (by simp) ?_
      refine AllReadyH.cons rfl (fun K hK => ?_) AllReadyH.nil
      go_simp
      refine hK.out _ _ ?_ (fun hHeld => ?_)
      · exact HSt.out _ _ HQd.out (below_set8 HY.out (Nat.le_refl _) _ _ _ _ _ _ _ _)
      clear hK K
      have HB6 := Lib.hid (kbc_set8 (u0 := .int .i64 ca) (u1 := .int .i64 cb) (u2 := .int .i64 cc) (u3 := .int .i64 o) (u4 := .string w2) (u5 := .string ⟨#[]⟩) (u6 := .string ⟨#[]⟩) (u7 := .string ⟨#[]⟩) HZZ.out)
      have hbs := below_set8 HY.out (Nat.le_refl _) (.int .i64 ca) (.int .i64 cb) (.int .i64 cc) (.int .i64 o) (.string w2) (.string ⟨#[]⟩) (.string ⟨#[]⟩) (.string ⟨#[]⟩)
      have HQ3 := Lib.hid (HSt.out _ _ HQd.out hbs).2.2.2.2.2.out
      have HL6 := HL1
      clear hbs
      try simp only [Act.put, List.setIfInBounds_toArray, List.set_cons_zero, List.set_cons_succ]
      refine wpAnyH_done (by kernel_rfl) ?_ _
      go_wp2_with fail
      go_meet
      exact ⟨_, rfl, Lib.hid ⟨HL6.out, HQ3.out.1, HB6.out⟩⟩
  case rest =>
    obtain ⟨b6, rfl, HC6⟩ := hcut
    have HP1 := Lib.hid HC6.out.2.1
    have HK1 := Lib.hid (show KbC _ b6 (chB ⟨(ca, cb, cc), o, w2, nilS, nilS, nilS⟩) from HC6.out.2.2)
    have HL := Lib.hid HC6.out.1
    go_wp2_with fail
    refine (fieldsN_s _ o wc (at8_box HK1.out).c3 hop).mono ?_
    rintro e w5 ⟨rfl, rfl⟩
    have hbx := box_below wc (.cells #[.pointer (some ⟨b6, 5, none⟩)] 121)
    have HPt := Lib.hid (kbc_new wc (.cells #[.pointer (some ⟨b6, 5, none⟩)] 121))
    have HP2 := Lib.hid (HP1.out.step hbx)
    have HK2 := Lib.hid (Csn.KbC.step HK1.out hbx)
    have HLP := Lib.hid (show b6 < wc.heap.size from Csn.KbC.big HK1.out)
    clear hbx
    generalize wc.alloc (.cells #[.pointer (some ⟨b6, 5, none⟩)] 121) = W5 at HP2 HK2 HPt ⊢
    by_cases hpe0 : pe = 0
    · have q1 : (pe != 0) = false := by rw [hpe0]; rfl
      by_cases hn4 : n = 4
      · have q2 : ((n : Int) != 4) = false := by rw [hn4]; rfl
        have l3 : (3 : Int) < (n : Int) := by omega
        have k3 := HCell.out _ HP2.out 3 (by omega)
        rw [HWd.out.2.2.2.1] at k3
        have d0 := Csn.KbC.cell (i := 0) HPt.out rfl
        go_wp2_with fail
        refine wp_loop_rounds 2 ?_
        rw [rounds_succ]
        go_wp2_with fail
        refine (unesc_k w3 s3 e3 W5 HZs.out.2.1 HU.out.1 HU.out.2.1).mono ?_
        rintro e v6 ⟨rfl, hb⟩
        have HPa0 := Lib.hid (HP2.out.step hb)
        have HKa0 := Lib.hid (Csn.KbC.step HK2.out hb)
        have HPt0 := Lib.hid (Csn.KbC.step HPt.out hb)
        clear hb
        have f5 : v6.frozen? ⟨b6, 5, none⟩ = false := Csn.KbC.frz HKa0.out
        have z5 := (at8_box HKa0.out).c5
        dsimp only at z5
        have HK3 := Lib.hid (kbc_set (g' := ⟨(ca, cb, cc), o, w2, s3, nilS, nilS⟩) 5 (.string s3) HKa0.out rfl)
        have HP3 := Lib.hid (RwP.own HPa0.out HO.out HWs.out (B := b6) (Nat.le_of_lt HL.out) HL.out ((Below.refl b6 v6).setCell (p := ⟨b6, 5, none⟩) (Nat.le_refl _) (.string s3)))
        have HPs0 := Lib.hid (kbc_other HPt0.out (show wc.heap.size ≠ b6 from Nat.ne_of_gt HLP.out) 5 (.string s3))
        by_cases he : e3 = 0
        · have q3 : (e3 != 0) = false := by rw [he]; rfl
          have HE0 := Lib.hid he
          obtain ⟨c0, c1, c2, c3, c4, c5, c6, c7⟩ := at8_box HK3.out
          unfold nilS at c6 c7
          dsimp only at c0 c1 c2 c3 c4 c5 c6 c7
          have gf : ∀ j, ((v6.setCell ⟨b6, 5, none⟩ (.string s3))).frozen? ⟨w.heap.size, j, none⟩ = false := fun j => Csn.KbC.frz HP3.out.res
          have HG8 : Hid (KbC ((v6.setCell ⟨b6, 5, none⟩ (.string s3))) w.heap.size (.cells #[.int .i64 0, .int .i64 0, .int .i64 0, .int .i64 0, .string ⟨#[]⟩, .string ⟨#[]⟩, .string ⟨#[]⟩, .string ⟨#[]⟩] 26)) := Lib.hid (zero_is ▸ HP3.out.res)
          have g0 := Csn.KbC.cell (i := 0) HG8.out rfl
          have g1 := Csn.KbC.cell (i := 1) HG8.out rfl
          have g2 := Csn.KbC.cell (i := 2) HG8.out rfl
          have g3 := Csn.KbC.cell (i := 3) HG8.out rfl
          have g4 := Csn.KbC.cell (i := 4) HG8.out rfl
          have g5 := Csn.KbC.cell (i := 5) HG8.out rfl
          have g6 := Csn.KbC.cell (i := 6) HG8.out rfl
          have g7 := Csn.KbC.cell (i := 7) HG8.out rfl
          go_wp2_with fail
          rw [rounds_succ]
          go_wp2_with fail
          try simp only [Exit.inBlock, Exit.then]
          refine bodyPost_ret (readWords_results _ _ _ _ _ rfl (kbc_set8 HG8.out) rfl) rfl ?_
          exact ⟨by rw [HR.out, if_neg (fun k => k.elim (fun k => k hpe0) (fun k => k.elim (fun k => k hn4) (fun k => k HE0.out)))]; rfl, below_set8 HP3.out.low (Nat.le_refl _) _ _ _ _ _ _ _ _⟩
        · have qe : (e3 != 0) = true := by simpa using he
          have gf : ∀ j, ((v6.setCell ⟨b6, 5, none⟩ (.string s3))).frozen? ⟨w.heap.size, j, none⟩ = false := fun j => Csn.KbC.frz HP3.out.res
          have HG8 : Hid (KbC ((v6.setCell ⟨b6, 5, none⟩ (.string s3))) w.heap.size (.cells #[.int .i64 0, .int .i64 0, .int .i64 0, .int .i64 0, .string ⟨#[]⟩, .string ⟨#[]⟩, .string ⟨#[]⟩, .string ⟨#[]⟩] 26)) := Lib.hid (zero_is ▸ HP3.out.res)
          have g0 := Csn.KbC.cell (i := 0) HG8.out rfl
          have g1 := Csn.KbC.cell (i := 1) HG8.out rfl
          have g2 := Csn.KbC.cell (i := 2) HG8.out rfl
          have g3 := Csn.KbC.cell (i := 3) HG8.out rfl
          have g4 := Csn.KbC.cell (i := 4) HG8.out rfl
          have g5 := Csn.KbC.cell (i := 5) HG8.out rfl
          have g6 := Csn.KbC.cell (i := 6) HG8.out rfl
          have g7 := Csn.KbC.cell (i := 7) HG8.out rfl
          go_wp2_with fail
          try simp only [Exit.inBlock, Exit.then]
          refine bodyPost_ret (readWords_results _ _ _ _ _ rfl (kbc_set8 HG8.out) rfl) rfl ?_
          exact ⟨by rw [HR.out, if_pos (.inr (.inr he))]; rfl, below_set8 HP3.out.low (Nat.le_refl _) _ _ _ _ _ _ _ _⟩
      · have q2 : ((n : Int) != 4) = true := by simp; omega
        have gf : ∀ j, (W5).frozen? ⟨w.heap.size, j, none⟩ = false := fun j => Csn.KbC.frz HP2.out.res
        have HG8 : Hid (KbC (W5) w.heap.size (.cells #[.int .i64 0, .int .i64 0, .int .i64 0, .int .i64 0, .string ⟨#[]⟩, .string ⟨#[]⟩, .string ⟨#[]⟩, .string ⟨#[]⟩] 26)) := Lib.hid (zero_is ▸ HP2.out.res)
        have g0 := Csn.KbC.cell (i := 0) HG8.out rfl
        have g1 := Csn.KbC.cell (i := 1) HG8.out rfl
        have g2 := Csn.KbC.cell (i := 2) HG8.out rfl
        have g3 := Csn.KbC.cell (i := 3) HG8.out rfl
        have g4 := Csn.KbC.cell (i := 4) HG8.out rfl
        have g5 := Csn.KbC.cell (i := 5) HG8.out rfl
        have g6 := Csn.KbC.cell (i := 6) HG8.out rfl
        have g7 := Csn.KbC.cell (i := 7) HG8.out rfl
        go_wp2_with fail
        try simp only [Exit.inBlock, Exit.then]
        refine bodyPost_ret (readWords_results _ _ _ _ _ rfl (kbc_set8 HG8.out) rfl) rfl ?_
        exact ⟨by rw [HR.out, if_pos (.inr (.inl hn4))]; rfl, below_set8 HP2.out.low (Nat.le_refl _) _ _ _ _ _ _ _ _⟩
    · have q1 : (pe != 0) = true := by simpa using hpe0
      have gf : ∀ j, (W5).frozen? ⟨w.heap.size, j, none⟩ = false := fun j => Csn.KbC.frz HP2.out.res
      have HG8 : Hid (KbC (W5) w.heap.size (.cells #[.int .i64 0, .int .i64 0, .int .i64 0, .int .i64 0, .string ⟨#[]⟩, .string ⟨#[]⟩, .string ⟨#[]⟩, .string ⟨#[]⟩] 26)) := Lib.hid (zero_is ▸ HP2.out.res)
      have g0 := Csn.KbC.cell (i := 0) HG8.out rfl
      have g1 := Csn.KbC.cell (i := 1) HG8.out rfl
      have g2 := Csn.KbC.cell (i := 2) HG8.out rfl
      have g3 := Csn.KbC.cell (i := 3) HG8.out rfl
      have g4 := Csn.KbC.cell (i := 4) HG8.out rfl
      have g5 := Csn.KbC.cell (i := 5) HG8.out rfl
      have g6 := Csn.KbC.cell (i := 6) HG8.out rfl
      have g7 := Csn.KbC.cell (i := 7) HG8.out rfl
      go_wp2_with fail
      try simp only [Exit.inBlock, Exit.then]
      refine bodyPost_ret (readWords_results _ _ _ _ _ rfl (kbc_set8 HG8.out) rfl) rfl ?_
      exact ⟨by rw [HR.out, if_pos (.inl hpe0)]; rfl, below_set8 HP2.out.low (Nat.le_refl _) _ _ _ _ _ _ _ _⟩
set_option maxHeartbeats 16000000 in
theorem readWordsV_s (ao : Option Addr) (n cap : Nat) (ws : List ByteArray) (w : World) (h : StrsAt w ao n cap ws) (h3 : 3 ≤ n) (hn : n ≤ 1100001) (hz : ∀ s ∈ ws, s.size ≤ 1000000) (ho : COk w) (hop : useV (opW (partAt ws 0)) = true) :
    Calls Tryz.prog 46 #[.slice ao n cap] w fun e w' => e = .returned (.tuple #[chV ((recG ws).getD zeroG), .bool (recG ws).isSome]) ∧ Below w.heap.size w w' := by
  have HR := Lib.hid (rec_V (by rw [h.1]; exact h3) hop)
  rw [h.1] at HR
  obtain ⟨bw, off, hao, hbw, hcs⟩ := h.2.2.2 (by omega)
  subst hao
  have HWs := Lib.hid h
  have HO := Lib.hid ho
  have HZ := Lib.hid (part_z hz)
  have hP0 := rwp_new h ho
  clear hcs hbw
  obtain ⟨w0, hw0⟩ : ∃ x, partAt ws 0 = x := ⟨_, rfl⟩
  obtain ⟨w1, hw1⟩ : ∃ x, partAt ws 1 = x := ⟨_, rfl⟩
  obtain ⟨w2, hw2⟩ : ∃ x, partAt ws 2 = x := ⟨_, rfl⟩
  obtain ⟨w3, hw3⟩ : ∃ x, partAt ws 3 = x := ⟨_, rfl⟩
  obtain ⟨w4, hw4⟩ : ∃ x, partAt ws 4 = x := ⟨_, rfl⟩
  have Z1 := HZ.out 1
  have Z3 := HZ.out 3
  have Z4 := HZ.out 4
  rw [hw1] at Z1
  rw [hw3] at Z3
  rw [hw4] at Z4
  have HZs := Lib.hid (And.intro Z1 (And.intro Z3 Z4))
  clear Z1 Z3 Z4 HZ hz ho h
  obtain ⟨⟨ca, cb, cc⟩, hcv⟩ : ∃ x, parVC w1.data.toList = x := ⟨_, rfl⟩
  obtain ⟨pe, hpe⟩ : ∃ x, parEC w1.data.toList = x := ⟨_, rfl⟩
  obtain ⟨o, hoo⟩ : ∃ x, opW w0 = x := ⟨_, rfl⟩
  obtain ⟨s3, hs3⟩ : ∃ x, unS w3 = x := ⟨_, rfl⟩
  obtain ⟨e3, he3⟩ : ∃ x, unE w3 = x := ⟨_, rfl⟩
  obtain ⟨s4, hs4⟩ : ∃ x, unS w4 = x := ⟨_, rfl⟩
  obtain ⟨e4, he4⟩ : ∃ x, unE w4 = x := ⟨_, rfl⟩
  rw [hw0] at hop HR
  rw [hw1, hw2, hw3, hw4] at HR
  skip
  rw [hoo] at hop HR
  rw [hcv, hpe, hs3, he3, hs4, he4] at HR
  have HV := Lib.hid (And.intro hcv hpe)
  have HOo := Lib.hid hoo
  have HU := Lib.hid (And.intro hs3 (And.intro he3 (And.intro hs4 he4)))
  have HWd := Lib.hid (And.intro hw0 (And.intro hw1 (And.intro hw2 (And.intro hw3 hw4))))
  clear hw0 hw1 hw2 hw3 hw4 hcv hpe hoo hs3 he3 hs4 he4
  have HP := Lib.hid hP0
  rw [zero_is] at hP0
  clear hP0
  have HCell := Lib.hid (show ∀ V : World, RwP w w.heap.size (some ⟨bw, off, none⟩) n cap ws V → ∀ j, j < n → V.cell? ⟨bw, off + j, none⟩ = some (.string (partAt ws j)) from fun V h j hj => by
    obtain ⟨b', o', e', _, hc⟩ := h.wds.2.2.2 (by omega)
    cases e'
    exact hc j (by rw [h.wds.1]; exact hj))
  have d3 : ¬ (n : Int) < 3 := by omega
  have l0 : (0 : Int) < (n : Int) := by omega
  have l0n : 0 < n := by omega
  have l1 : (1 : Int) < (n : Int) := by omega
  have l2 : (2 : Int) < (n : Int) := by omega
  have k1 := HCell.out _ HP.out 1 (by omega)
  rw [HWd.out.2.1] at k1
  rw [zero_is] at HP k1
  go_enter Tryz.func46, Tryz.ntmps46
  go_wp2_with fail
  clear k1
  generalize w.alloc (.cells #[.int .i64 0, .int .i64 0, .int .i64 0, .int .i64 0, .string ⟨#[]⟩, .string ⟨#[]⟩, .string ⟨#[]⟩, .string ⟨#[]⟩] 26) = W0 at HP ⊢
  refine (parse_k w1 ca cb cc pe W0 HZs.out.1 HP.out.ok.mx HV.out.1 HV.out.2).mono ?_
  rintro e v1 ⟨rfl, hb⟩
  have HP := Lib.hid (HP.out.step hb)
  clear hb
  have hb4 := box_below v1 (.cells #[.int .i64 ca, .int .i64 cb, .int .i64 cc] 23)
  have HB4 := Lib.hid (kbc_new v1 (.cells #[.int .i64 ca, .int .i64 cb, .int .i64 cc] 23))
  have HP := Lib.hid (HP.out.step hb4)
  clear hb4
  go_wp2_with fail
  generalize v1.alloc (.cells #[.int .i64 ca, .int .i64 cb, .int .i64 cc] 23) = W1 at HP HB4 ⊢
  have HL1 := Lib.hid (Csn.KbC.big HP.out.res)
  have HSt := Lib.hid (show ∀ V X : World, (RwP w w.heap.size (some ⟨bw, off, none⟩) n cap ws V ∧ KbC V v1.heap.size (.cells #[.int .i64 ca, .int .i64 cb, .int .i64 cc] 23)) → Below V.heap.size V X → (fun V => V.cell? ⟨v1.heap.size, 0, none⟩ = some (.int .i64 ca) ∧ V.cell? ⟨v1.heap.size, 1, none⟩ = some (.int .i64 cb) ∧ V.cell? ⟨v1.heap.size, 2, none⟩ = some (.int .i64 cc) ∧ V.cell? ⟨bw, off, none⟩ = some (.string w0) ∧ V.cell? ⟨bw, off + 2, none⟩ = some (.string w2) ∧ Hid (RwP w w.heap.size (some ⟨bw, off, none⟩) n cap ws V ∧ KbC V v1.heap.size (.cells #[.int .i64 ca, .int .i64 cb, .int .i64 cc] 23))) X from fun V X h hb => ⟨(Csn.KbC.step h.2 hb).cell rfl, (Csn.KbC.step h.2 hb).cell rfl, (Csn.KbC.step h.2 hb).cell rfl, by have := HCell.out X (h.1.step hb) 0 (by omega); rw [HWd.out.1] at this; exact this, by have := HCell.out X (h.1.step hb) 2 (by omega); rw [HWd.out.2.2.1] at this; exact this, Lib.hid ⟨h.1.step hb, Csn.KbC.step h.2 hb⟩⟩)
  have HQ : Hid (RwP w w.heap.size (some ⟨bw, off, none⟩) n cap ws W1 ∧ KbC W1 v1.heap.size (.cells #[.int .i64 ca, .int .i64 cb, .int .i64 cc] 23)) := Lib.hid ⟨HP.out, HB4.out⟩
  go_cut [6] (fun pv wx => ∃ b6 : Nat, pv = .pointer (some ⟨b6, 0, none⟩) ∧ Hid (w.heap.size < b6 ∧ RwP w w.heap.size (some ⟨bw, off, none⟩) n cap ws wx ∧ KbC wx b6 (.cells #[.int .i64 ca, .int .i64 cb, .int .i64 cc, .int .i64 o, .string w2, .string ⟨#[]⟩, .string ⟨#[]⟩, .string ⟨#[]⟩] 26)))
  case first =>
    have S0 := HSt.out _ _ HQ.out (Below.refl _ _).drew
    have HQd := Lib.hid S0.2.2.2.2.2.out
    refine wp_region_held_drew (S := fun V => V.cell? ⟨v1.heap.size, 0, none⟩ = some (.int .i64 ca) ∧ V.cell? ⟨v1.heap.size, 1, none⟩ = some (.int .i64 cb) ∧ V.cell? ⟨v1.heap.size, 2, none⟩ = some (.int .i64 cc) ∧ V.cell? ⟨bw, off, none⟩ = some (.string w0) ∧ V.cell? ⟨bw, off + 2, none⟩ = some (.string w2) ∧ Hid (RwP w w.heap.size (some ⟨bw, off, none⟩) n cap ws V ∧ KbC V v1.heap.size (.cells #[.int .i64 ca, .int .i64 cb, .int .i64 cc] 23))) (by kernel_rfl) (S0) (fun hS => ?_)
    refine wpAnyH_take (i := 0) (oi := { dst := some 21, op := _, type := _, pos := _, after := _, guard := _ }) (v := ?_) rfl (by kernel_rfl) (by kernel_rfl) (by kernel_rfl) (fun _ _ _ h => h) (Or.inl ⟨by rfl, ?_⟩) (by assumption) ?_
    rotate_left
    · intro w hSw
      try dsimp only at hSw
      go_simp
      try with_reducible rfl
    try simp only [Act.put, List.setIfInBounds_toArray, List.set_cons_zero, List.set_cons_succ]
    refine wpAnyH_take (i := 1) (oi := { dst := some 22, op := _, type := _, pos := _, after := _, guard := _ }) (v := ?_) rfl (by kernel_rfl) (by kernel_rfl) (by kernel_rfl) (fun _ _ _ h => h) (Or.inl ⟨by rfl, ?_⟩) (by assumption) ?_
    rotate_left
    · intro w hSw
      try dsimp only at hSw
      go_simp
      try with_reducible rfl
    try simp only [Act.put, List.setIfInBounds_toArray, List.set_cons_zero, List.set_cons_succ]
    refine wpAnyH_take (i := 2) (oi := { dst := some 23, op := _, type := _, pos := _, after := _, guard := _ }) (v := ?_) rfl (by kernel_rfl) (by kernel_rfl) (by kernel_rfl) (fun _ _ _ h => h) (Or.inl ⟨by rfl, ?_⟩) (by assumption) ?_
    rotate_left
    · intro w hSw
      try dsimp only at hSw
      go_simp
      try with_reducible rfl
    try simp only [Act.put, List.setIfInBounds_toArray, List.set_cons_zero, List.set_cons_succ]
    refine wpAnyH_take (i := 3) (oi := { dst := some 24, op := _, type := _, pos := _, after := _, guard := _ }) (v := ?_) rfl (by kernel_rfl) (by kernel_rfl) (by kernel_rfl) (fun _ _ _ h => h) (Or.inl ⟨by rfl, ?_⟩) (by assumption) ?_
    rotate_left
    · intro w hSw
      try dsimp only at hSw
      go_simp
      try with_reducible rfl
    try simp only [Act.put, List.setIfInBounds_toArray, List.set_cons_zero, List.set_cons_succ]
    refine wpAnyH_take (i := 5) (oi := { dst := some 26, op := _, type := _, pos := _, after := _, guard := _ }) (v := ?_) rfl (by kernel_rfl) (by kernel_rfl) (by kernel_rfl) (fun _ _ _ h => h) (Or.inl ⟨by rfl, ?_⟩) (by assumption) ?_
    rotate_left
    · intro w hSw
      try dsimp only at hSw
      go_simp
      try with_reducible rfl
    try simp only [Act.put, List.setIfInBounds_toArray, List.set_cons_zero, List.set_cons_succ]
    refine wpAnyH_take (i := 6) (oi := { dst := some 27, op := _, type := _, pos := _, after := _, guard := _ }) (v := ?_) rfl (by kernel_rfl) (by kernel_rfl) (by kernel_rfl) (fun _ _ _ h => h) (Or.inl ⟨by rfl, ?_⟩) (by assumption) ?_
    rotate_left
    · intro w hSw
      try dsimp only at hSw
      go_simp
      try with_reducible rfl
    try simp only [Act.put, List.setIfInBounds_toArray, List.set_cons_zero, List.set_cons_succ]
    refine wpAnyH_take (i := 7) (oi := { dst := some 28, op := _, type := _, pos := _, after := _, guard := _ }) (v := ?_) rfl (by kernel_rfl) (by kernel_rfl) (by kernel_rfl) (fun _ _ _ h => h) (Or.inl ⟨by rfl, ?_⟩) (by assumption) ?_
    rotate_left
    · intro w hSw
      try dsimp only at hSw
      go_simp
      try with_reducible rfl
    try simp only [Act.put, List.setIfInBounds_toArray, List.set_cons_zero, List.set_cons_succ]
    refine wpAnyH_ready (rs := [4, 9]) (by kernel_rfl) (by simp) ?_
    refine AllReadyH.cons rfl (fun K hK => ?_) (AllReadyH.cons rfl (fun K hK => ?_) AllReadyH.nil)
    · go_simp
      refine (readOp_k w0 o _ hS.2.2.2.2.2.out.1.ok.op HOo.out).mono ?_
      rintro _ v2 ⟨rfl, hb⟩
      have HQ2 := Lib.hid (HSt.out _ _ hS.2.2.2.2.2.out hb).2.2.2.2.2.out
      have HbD := Lib.hid hb
      clear hb
      go_wp2_with fail
      refine hK.out _ _ ?_ (fun hHeld => ?_)
      · exact HSt.out _ _ HQ2.out (Below.refl _ _)
      clear hK K
      try simp only [Act.put, List.setIfInBounds_toArray, List.set_cons_zero, List.set_cons_succ]
      refine wpAnyH_take (i := 8) (oi := { dst := some 29, op := _, type := _, pos := _, after := _, guard := _ }) (v := ?_) rfl (by kernel_rfl) (by kernel_rfl) (by kernel_rfl) (fun _ _ _ h => h) (Or.inl ⟨by rfl, ?_⟩) (by assumption) ?_
      rotate_left
      · intro w hSw
        try dsimp only at hSw
        go_simp
        try with_reducible rfl
      try simp only [Act.put, List.setIfInBounds_toArray, List.set_cons_zero, List.set_cons_succ]
      refine wpAnyH_ready (rs := [9]) (by kernel_rfl) (by simp) ?_
      refine AllReadyH.cons rfl (fun K hK => ?_) AllReadyH.nil
      go_simp
      refine hK.out _ _ ?_ (fun hHeld => ?_)
      · exact HSt.out _ _ HQ2.out (box_below _ _)
      clear hK K
      skip
      try simp only [Act.put, List.setIfInBounds_toArray, List.set_cons_zero, List.set_cons_succ]
      refine wpAnyH_ready (rs := [10]) (by kernel_rfl) (by simp) ?_
      refine AllReadyH.cons rfl (fun K hK => ?_) AllReadyH.nil
      go_simp
      refine hK.out _ _ ?_ (fun hHeld => ?_)
      · exact HSt.out _ _ HQ2.out (box_below _ _)
      clear hK K
      have HB6 := Lib.hid (kbc_new v2 (.cells #[.int .i64 ca, .int .i64 cb, .int .i64 cc, .int .i64 o, .string w2, .string ⟨#[]⟩, .string ⟨#[]⟩, .string ⟨#[]⟩] 26))
      have HQ3 := Lib.hid (HSt.out _ _ HQ2.out (box_below v2 (.cells #[.int .i64 ca, .int .i64 cb, .int .i64 cc, .int .i64 o, .string w2, .string ⟨#[]⟩, .string ⟨#[]⟩, .string ⟨#[]⟩] 26))).2.2.2.2.2.out
      have HL6 := Lib.hid (Nat.lt_of_lt_of_le HL1.out HbD.out.size)
      try simp only [Act.put, List.setIfInBounds_toArray, List.set_cons_zero, List.set_cons_succ]
      refine wpAnyH_done (by kernel_rfl) ?_ _
      go_wp2_with fail
      go_meet
      exact ⟨_, rfl, Lib.hid ⟨HL6.out, HQ3.out.1, HB6.out⟩⟩
    · go_simp
      refine hK.out _ _ ?_ (fun hHeld => ?_)
      · exact HSt.out _ _ HQd.out (box_below _ _)
      clear hK K
      have HY := Lib.hid (show Below W1.drew.heap.size W1.drew (W1.alloc (.cells #[.int .i64 0, .int .i64 0, .int .i64 0, .int .i64 0, .string ⟨#[]⟩, .string ⟨#[]⟩, .string ⟨#[]⟩, .string ⟨#[]⟩] 26)).drew from box_below W1.drew (.cells #[.int .i64 0, .int .i64 0, .int .i64 0, .int .i64 0, .string ⟨#[]⟩, .string ⟨#[]⟩, .string ⟨#[]⟩, .string ⟨#[]⟩] 26))
      have HZZ : Hid (KbC (W1.alloc (.cells #[.int .i64 0, .int .i64 0, .int .i64 0, .int .i64 0, .string ⟨#[]⟩, .string ⟨#[]⟩, .string ⟨#[]⟩, .string ⟨#[]⟩] 26)).drew W1.heap.size (.cells #[.int .i64 0, .int .i64 0, .int .i64 0, .int .i64 0, .string ⟨#[]⟩, .string ⟨#[]⟩, .string ⟨#[]⟩, .string ⟨#[]⟩] 26)) := Lib.hid (kbc_new W1.drew _)
      try simp only [Act.put, List.setIfInBounds_toArray, List.set_cons_zero, List.set_cons_succ]
      refine wpAnyH_ready (rs := [4]) (by kernel_rfl) (by simp) ?_
      refine AllReadyH.cons rfl (fun K hK => ?_) AllReadyH.nil
      go_simp
      refine (readOp_k w0 o _ hHeld.2.2.2.2.2.out.1.ok.op HOo.out).mono ?_
      rintro _ v2 ⟨rfl, hb⟩
      have HQ2 := Lib.hid (HSt.out _ _ hHeld.2.2.2.2.2.out hb).2.2.2.2.2.out
      have HY := Lib.hid (HY.out.trans (hb.mono HY.out.size))
      have HZZ := Lib.hid (Csn.KbC.step HZZ.out hb)
      clear hb
      have gf : ∀ j, v2.frozen? ⟨W1.heap.size, j, none⟩ = false := fun j => Csn.KbC.frz HZZ.out
      have g0 : v2.cell? ⟨W1.heap.size, 0, none⟩ = some (.int .i64 0) := Csn.KbC.cell HZZ.out rfl
      have g1 : v2.cell? ⟨W1.heap.size, 1, none⟩ = some (.int .i64 0) := Csn.KbC.cell HZZ.out rfl
      have g2 : v2.cell? ⟨W1.heap.size, 2, none⟩ = some (.int .i64 0) := Csn.KbC.cell HZZ.out rfl
      have g3 : v2.cell? ⟨W1.heap.size, 3, none⟩ = some (.int .i64 0) := Csn.KbC.cell HZZ.out rfl
      have g4 : v2.cell? ⟨W1.heap.size, 4, none⟩ = some (.string ⟨#[]⟩) := Csn.KbC.cell HZZ.out rfl
      have g5 : v2.cell? ⟨W1.heap.size, 5, none⟩ = some (.string ⟨#[]⟩) := Csn.KbC.cell HZZ.out rfl
      have g6 : v2.cell? ⟨W1.heap.size, 6, none⟩ = some (.string ⟨#[]⟩) := Csn.KbC.cell HZZ.out rfl
      have g7 : v2.cell? ⟨W1.heap.size, 7, none⟩ = some (.string ⟨#[]⟩) := Csn.KbC.cell HZZ.out rfl
      go_wp2_with fail
      refine hK.out _ _ ?_ (fun hHeld => ?_)
      · exact HSt.out _ _ HQ2.out (Below.refl _ _)
      clear hK K
      try simp only [Act.put, List.setIfInBounds_toArray, List.set_cons_zero, List.set_cons_succ]
      refine wpAnyH_take (i := 8) (oi := { dst := some 29, op := _, type := _, pos := _, after := _, guard := _ }) (v := ?_) rfl (by kernel_rfl) (by kernel_rfl) (by kernel_rfl) (fun _ _ _ h => h) (Or.inl ⟨by rfl, ?_⟩) (by assumption) ?_
      rotate_left
      · intro w hSw
        try dsimp only at hSw
        go_simp
        try with_reducible rfl
      try simp only [Act.put, List.setIfInBounds_toArray, List.set_cons_zero, List.set_cons_succ]
      refine wpAnyH_ready (rs := [10]) (by kernel_rfl) (by simp) ?_
      refine AllReadyH.cons rfl (fun K hK => ?_) AllReadyH.nil
      go_simp
      refine hK.out _ _ ?_ (fun hHeld => ?_)
      · exact HSt.out _ _ HQd.out (below_set8 HY.out (Nat.le_refl _) _ _ _ _ _ _ _ _)
      clear hK K
      have HB6 := Lib.hid (kbc_set8 (u0 := .int .i64 ca) (u1 := .int .i64 cb) (u2 := .int .i64 cc) (u3 := .int .i64 o) (u4 := .string w2) (u5 := .string ⟨#[]⟩) (u6 := .string ⟨#[]⟩) (u7 := .string ⟨#[]⟩) HZZ.out)
      have hbs := below_set8 HY.out (Nat.le_refl _) (.int .i64 ca) (.int .i64 cb) (.int .i64 cc) (.int .i64 o) (.string w2) (.string ⟨#[]⟩) (.string ⟨#[]⟩) (.string ⟨#[]⟩)
      have HQ3 := Lib.hid (HSt.out _ _ HQd.out hbs).2.2.2.2.2.out
      have HL6 := HL1
      clear hbs
      try simp only [Act.put, List.setIfInBounds_toArray, List.set_cons_zero, List.set_cons_succ]
      refine wpAnyH_done (by kernel_rfl) ?_ _
      go_wp2_with fail
      go_meet
      exact ⟨_, rfl, Lib.hid ⟨HL6.out, HQ3.out.1, HB6.out⟩⟩
  case rest =>
    obtain ⟨b6, rfl, HC6⟩ := hcut
    have HP1 := Lib.hid HC6.out.2.1
    have HK1 := Lib.hid (show KbC _ b6 (chB ⟨(ca, cb, cc), o, w2, nilS, nilS, nilS⟩) from HC6.out.2.2)
    have HL := Lib.hid HC6.out.1
    go_wp2_with fail
    refine (fieldsV_s _ o wc (at8_box HK1.out).c3 hop).mono ?_
    rintro e w5 ⟨q, rfl, rfl⟩
    have hbx : Below wc.heap.size wc ((wc.alloc (.cells #[.pointer (some ⟨b6, 6, none⟩), .pointer (some ⟨b6, 7, none⟩)] 121)).drewN q) := (box_below wc (.cells #[.pointer (some ⟨b6, 6, none⟩), .pointer (some ⟨b6, 7, none⟩)] 121)).trans ⟨rfl, rfl, rfl, Nat.le_refl _, fun _ _ => rfl⟩
    have HPt := Lib.hid (show KbC ((wc.alloc (.cells #[.pointer (some ⟨b6, 6, none⟩), .pointer (some ⟨b6, 7, none⟩)] 121)).drewN q) wc.heap.size (.cells #[.pointer (some ⟨b6, 6, none⟩), .pointer (some ⟨b6, 7, none⟩)] 121) from kbc_new wc _)
    have HP2 := Lib.hid (HP1.out.step hbx)
    have HK2 := Lib.hid (Csn.KbC.step HK1.out hbx)
    have HLP := Lib.hid (show b6 < wc.heap.size from Csn.KbC.big HK1.out)
    clear hbx
    generalize (wc.alloc (.cells #[.pointer (some ⟨b6, 6, none⟩), .pointer (some ⟨b6, 7, none⟩)] 121)).drewN q = W5 at HP2 HK2 HPt ⊢
    by_cases hpe0 : pe = 0
    · have q1 : (pe != 0) = false := by rw [hpe0]; rfl
      by_cases hn4 : n = 5
      · have q2 : ((n : Int) != 5) = false := by rw [hn4]; rfl
        have l3 : (3 : Int) < (n : Int) := by omega
        have k3 := HCell.out _ HP2.out 3 (by omega)
        rw [HWd.out.2.2.2.1] at k3
        have d0 := Csn.KbC.cell (i := 0) HPt.out rfl
        have d1 := Csn.KbC.cell (i := 1) HPt.out rfl
        go_wp2_with fail
        refine wp_loop_rounds 3 ?_
        rw [rounds_succ]
        go_wp2_with fail
        refine (unesc_k w3 s3 e3 W5 HZs.out.2.1 HU.out.1 HU.out.2.1).mono ?_
        rintro e v6 ⟨rfl, hb⟩
        have HPa0 := Lib.hid (HP2.out.step hb)
        have HKa0 := Lib.hid (Csn.KbC.step HK2.out hb)
        have HPt0 := Lib.hid (Csn.KbC.step HPt.out hb)
        clear hb
        have f6 : v6.frozen? ⟨b6, 6, none⟩ = false := Csn.KbC.frz HKa0.out
        have z6 := (at8_box HKa0.out).c6
        dsimp only at z6
        have HK3 := Lib.hid (kbc_set (g' := ⟨(ca, cb, cc), o, w2, nilS, s3, nilS⟩) 6 (.string s3) HKa0.out rfl)
        have HP3 := Lib.hid (RwP.own HPa0.out HO.out HWs.out (B := b6) (Nat.le_of_lt HL.out) HL.out ((Below.refl b6 v6).setCell (p := ⟨b6, 6, none⟩) (Nat.le_refl _) (.string s3)))
        have HPs0 := Lib.hid (kbc_other HPt0.out (show wc.heap.size ≠ b6 from Nat.ne_of_gt HLP.out) 6 (.string s3))
        by_cases he : e3 = 0
        · have q3 : (e3 != 0) = false := by rw [he]; rfl
          have HE0 := Lib.hid he
          have l4 : (4 : Int) < (n : Int) := by omega
          have k4 := HCell.out _ HP3.out 4 (by omega)
          rw [HWd.out.2.2.2.2] at k4
          have d1b := Csn.KbC.cell (i := 1) HPs0.out rfl
          go_wp2_with fail
          rw [rounds_succ]
          go_wp2_with fail
          refine (unesc_k w4 s4 e4 (v6.setCell ⟨b6, 6, none⟩ (.string s3)) HZs.out.2.2 HU.out.2.2.1 HU.out.2.2.2).mono ?_
          rintro e v7 ⟨rfl, hb⟩
          have HPa1 := Lib.hid (HP3.out.step hb)
          have HKa1 := Lib.hid (Csn.KbC.step HK3.out hb)
          have HPt1 := Lib.hid (Csn.KbC.step HPs0.out hb)
          clear hb
          have f7 : v7.frozen? ⟨b6, 7, none⟩ = false := Csn.KbC.frz HKa1.out
          have z7 := (at8_box HKa1.out).c7
          dsimp only at z7
          have HK4 := Lib.hid (kbc_set (g' := ⟨(ca, cb, cc), o, w2, nilS, s3, s4⟩) 7 (.string s4) HKa1.out rfl)
          have HP4 := Lib.hid (RwP.own HPa1.out HO.out HWs.out (B := b6) (Nat.le_of_lt HL.out) HL.out ((Below.refl b6 v7).setCell (p := ⟨b6, 7, none⟩) (Nat.le_refl _) (.string s4)))
          have HPs1 := Lib.hid (kbc_other HPt1.out (show wc.heap.size ≠ b6 from Nat.ne_of_gt HLP.out) 7 (.string s4))
          by_cases he : e4 = 0
          · have q4 : (e4 != 0) = false := by rw [he]; rfl
            have HE1 := Lib.hid he
            obtain ⟨c0, c1, c2, c3, c4, c5, c6, c7⟩ := at8_box HK4.out
            unfold nilS at c5
            dsimp only at c0 c1 c2 c3 c4 c5 c6 c7
            have gf : ∀ j, ((v7.setCell ⟨b6, 7, none⟩ (.string s4))).frozen? ⟨w.heap.size, j, none⟩ = false := fun j => Csn.KbC.frz HP4.out.res
            have HG8 : Hid (KbC ((v7.setCell ⟨b6, 7, none⟩ (.string s4))) w.heap.size (.cells #[.int .i64 0, .int .i64 0, .int .i64 0, .int .i64 0, .string ⟨#[]⟩, .string ⟨#[]⟩, .string ⟨#[]⟩, .string ⟨#[]⟩] 26)) := Lib.hid (zero_is ▸ HP4.out.res)
            have g0 := Csn.KbC.cell (i := 0) HG8.out rfl
            have g1 := Csn.KbC.cell (i := 1) HG8.out rfl
            have g2 := Csn.KbC.cell (i := 2) HG8.out rfl
            have g3 := Csn.KbC.cell (i := 3) HG8.out rfl
            have g4 := Csn.KbC.cell (i := 4) HG8.out rfl
            have g5 := Csn.KbC.cell (i := 5) HG8.out rfl
            have g6 := Csn.KbC.cell (i := 6) HG8.out rfl
            have g7 := Csn.KbC.cell (i := 7) HG8.out rfl
            go_wp2_with fail
            rw [rounds_succ]
            go_wp2_with fail
            try simp only [Exit.inBlock, Exit.then]
            refine bodyPost_ret (readWords_results _ _ _ _ _ rfl (kbc_set8 HG8.out) rfl) rfl ?_
            exact ⟨by rw [HR.out, if_neg (fun k => k.elim (fun k => k hpe0) (fun k => k.elim (fun k => k hn4) (fun k => k.elim (fun k => k HE0.out) (fun k => k HE1.out))))]; rfl, below_set8 HP4.out.low (Nat.le_refl _) _ _ _ _ _ _ _ _⟩
          · have qe : (e4 != 0) = true := by simpa using he
            have gf : ∀ j, ((v7.setCell ⟨b6, 7, none⟩ (.string s4))).frozen? ⟨w.heap.size, j, none⟩ = false := fun j => Csn.KbC.frz HP4.out.res
            have HG8 : Hid (KbC ((v7.setCell ⟨b6, 7, none⟩ (.string s4))) w.heap.size (.cells #[.int .i64 0, .int .i64 0, .int .i64 0, .int .i64 0, .string ⟨#[]⟩, .string ⟨#[]⟩, .string ⟨#[]⟩, .string ⟨#[]⟩] 26)) := Lib.hid (zero_is ▸ HP4.out.res)
            have g0 := Csn.KbC.cell (i := 0) HG8.out rfl
            have g1 := Csn.KbC.cell (i := 1) HG8.out rfl
            have g2 := Csn.KbC.cell (i := 2) HG8.out rfl
            have g3 := Csn.KbC.cell (i := 3) HG8.out rfl
            have g4 := Csn.KbC.cell (i := 4) HG8.out rfl
            have g5 := Csn.KbC.cell (i := 5) HG8.out rfl
            have g6 := Csn.KbC.cell (i := 6) HG8.out rfl
            have g7 := Csn.KbC.cell (i := 7) HG8.out rfl
            go_wp2_with fail
            try simp only [Exit.inBlock, Exit.then]
            refine bodyPost_ret (readWords_results _ _ _ _ _ rfl (kbc_set8 HG8.out) rfl) rfl ?_
            exact ⟨by rw [HR.out, if_pos (.inr (.inr (.inr he)))]; rfl, below_set8 HP4.out.low (Nat.le_refl _) _ _ _ _ _ _ _ _⟩
        · have qe : (e3 != 0) = true := by simpa using he
          have gf : ∀ j, ((v6.setCell ⟨b6, 6, none⟩ (.string s3))).frozen? ⟨w.heap.size, j, none⟩ = false := fun j => Csn.KbC.frz HP3.out.res
          have HG8 : Hid (KbC ((v6.setCell ⟨b6, 6, none⟩ (.string s3))) w.heap.size (.cells #[.int .i64 0, .int .i64 0, .int .i64 0, .int .i64 0, .string ⟨#[]⟩, .string ⟨#[]⟩, .string ⟨#[]⟩, .string ⟨#[]⟩] 26)) := Lib.hid (zero_is ▸ HP3.out.res)
          have g0 := Csn.KbC.cell (i := 0) HG8.out rfl
          have g1 := Csn.KbC.cell (i := 1) HG8.out rfl
          have g2 := Csn.KbC.cell (i := 2) HG8.out rfl
          have g3 := Csn.KbC.cell (i := 3) HG8.out rfl
          have g4 := Csn.KbC.cell (i := 4) HG8.out rfl
          have g5 := Csn.KbC.cell (i := 5) HG8.out rfl
          have g6 := Csn.KbC.cell (i := 6) HG8.out rfl
          have g7 := Csn.KbC.cell (i := 7) HG8.out rfl
          go_wp2_with fail
          try simp only [Exit.inBlock, Exit.then]
          refine bodyPost_ret (readWords_results _ _ _ _ _ rfl (kbc_set8 HG8.out) rfl) rfl ?_
          exact ⟨by rw [HR.out, if_pos (.inr (.inr (.inl he)))]; rfl, below_set8 HP3.out.low (Nat.le_refl _) _ _ _ _ _ _ _ _⟩
      · have q2 : ((n : Int) != 5) = true := by simp; omega
        have gf : ∀ j, (W5).frozen? ⟨w.heap.size, j, none⟩ = false := fun j => Csn.KbC.frz HP2.out.res
        have HG8 : Hid (KbC (W5) w.heap.size (.cells #[.int .i64 0, .int .i64 0, .int .i64 0, .int .i64 0, .string ⟨#[]⟩, .string ⟨#[]⟩, .string ⟨#[]⟩, .string ⟨#[]⟩] 26)) := Lib.hid (zero_is ▸ HP2.out.res)
        have g0 := Csn.KbC.cell (i := 0) HG8.out rfl
        have g1 := Csn.KbC.cell (i := 1) HG8.out rfl
        have g2 := Csn.KbC.cell (i := 2) HG8.out rfl
        have g3 := Csn.KbC.cell (i := 3) HG8.out rfl
        have g4 := Csn.KbC.cell (i := 4) HG8.out rfl
        have g5 := Csn.KbC.cell (i := 5) HG8.out rfl
        have g6 := Csn.KbC.cell (i := 6) HG8.out rfl
        have g7 := Csn.KbC.cell (i := 7) HG8.out rfl
        go_wp2_with fail
        try simp only [Exit.inBlock, Exit.then]
        refine bodyPost_ret (readWords_results _ _ _ _ _ rfl (kbc_set8 HG8.out) rfl) rfl ?_
        exact ⟨by rw [HR.out, if_pos (.inr (.inl hn4))]; rfl, below_set8 HP2.out.low (Nat.le_refl _) _ _ _ _ _ _ _ _⟩
    · have q1 : (pe != 0) = true := by simpa using hpe0
      have gf : ∀ j, (W5).frozen? ⟨w.heap.size, j, none⟩ = false := fun j => Csn.KbC.frz HP2.out.res
      have HG8 : Hid (KbC (W5) w.heap.size (.cells #[.int .i64 0, .int .i64 0, .int .i64 0, .int .i64 0, .string ⟨#[]⟩, .string ⟨#[]⟩, .string ⟨#[]⟩, .string ⟨#[]⟩] 26)) := Lib.hid (zero_is ▸ HP2.out.res)
      have g0 := Csn.KbC.cell (i := 0) HG8.out rfl
      have g1 := Csn.KbC.cell (i := 1) HG8.out rfl
      have g2 := Csn.KbC.cell (i := 2) HG8.out rfl
      have g3 := Csn.KbC.cell (i := 3) HG8.out rfl
      have g4 := Csn.KbC.cell (i := 4) HG8.out rfl
      have g5 := Csn.KbC.cell (i := 5) HG8.out rfl
      have g6 := Csn.KbC.cell (i := 6) HG8.out rfl
      have g7 := Csn.KbC.cell (i := 7) HG8.out rfl
      go_wp2_with fail
      try simp only [Exit.inBlock, Exit.then]
      refine bodyPost_ret (readWords_results _ _ _ _ _ rfl (kbc_set8 HG8.out) rfl) rfl ?_
      exact ⟨by rw [HR.out, if_pos (.inl hpe0)]; rfl, below_set8 HP2.out.low (Nat.le_refl _) _ _ _ _ _ _ _ _⟩
set_option maxHeartbeats 16000000 in
theorem readWords0_s (ao : Option Addr) (n cap : Nat) (ws : List ByteArray) (w : World) (h : StrsAt w ao n cap ws) (h3 : 3 ≤ n) (hn : n ≤ 1100001) (hz : ∀ s ∈ ws, s.size ≤ 1000000) (ho : COk w) (hN : useN (opW (partAt ws 0)) = false) (hV : useV (opW (partAt ws 0)) = false) :
    Calls Tryz.prog 46 #[.slice ao n cap] w fun e w' => e = .returned (.tuple #[chV ((recG ws).getD zeroG), .bool (recG ws).isSome]) ∧ Below w.heap.size w w' := by
  have HR := Lib.hid (rec_0 (by rw [h.1]; exact h3) hN hV)
  rw [h.1] at HR
  obtain ⟨bw, off, hao, hbw, hcs⟩ := h.2.2.2 (by omega)
  subst hao
  have HWs := Lib.hid h
  have HO := Lib.hid ho
  have HZ := Lib.hid (part_z hz)
  have hP0 := rwp_new h ho
  clear hcs hbw
  obtain ⟨w0, hw0⟩ : ∃ x, partAt ws 0 = x := ⟨_, rfl⟩
  obtain ⟨w1, hw1⟩ : ∃ x, partAt ws 1 = x := ⟨_, rfl⟩
  obtain ⟨w2, hw2⟩ : ∃ x, partAt ws 2 = x := ⟨_, rfl⟩
  obtain ⟨w3, hw3⟩ : ∃ x, partAt ws 3 = x := ⟨_, rfl⟩
  obtain ⟨w4, hw4⟩ : ∃ x, partAt ws 4 = x := ⟨_, rfl⟩
  have Z1 := HZ.out 1
  have Z3 := HZ.out 3
  have Z4 := HZ.out 4
  rw [hw1] at Z1
  rw [hw3] at Z3
  rw [hw4] at Z4
  have HZs := Lib.hid (And.intro Z1 (And.intro Z3 Z4))
  clear Z1 Z3 Z4 HZ hz ho h
  obtain ⟨⟨ca, cb, cc⟩, hcv⟩ : ∃ x, parVC w1.data.toList = x := ⟨_, rfl⟩
  obtain ⟨pe, hpe⟩ : ∃ x, parEC w1.data.toList = x := ⟨_, rfl⟩
  obtain ⟨o, hoo⟩ : ∃ x, opW w0 = x := ⟨_, rfl⟩
  obtain ⟨s3, hs3⟩ : ∃ x, unS w3 = x := ⟨_, rfl⟩
  obtain ⟨e3, he3⟩ : ∃ x, unE w3 = x := ⟨_, rfl⟩
  obtain ⟨s4, hs4⟩ : ∃ x, unS w4 = x := ⟨_, rfl⟩
  obtain ⟨e4, he4⟩ : ∃ x, unE w4 = x := ⟨_, rfl⟩
  rw [hw0] at hN hV HR
  rw [hw1, hw2] at HR
  skip
  rw [hoo] at hN hV HR
  rw [hcv, hpe] at HR
  have HV := Lib.hid (And.intro hcv hpe)
  have HOo := Lib.hid hoo
  have HU := Lib.hid (And.intro hs3 (And.intro he3 (And.intro hs4 he4)))
  have HWd := Lib.hid (And.intro hw0 (And.intro hw1 (And.intro hw2 (And.intro hw3 hw4))))
  clear hw0 hw1 hw2 hw3 hw4 hcv hpe hoo hs3 he3 hs4 he4
  have HP := Lib.hid hP0
  rw [zero_is] at hP0
  clear hP0
  have HCell := Lib.hid (show ∀ V : World, RwP w w.heap.size (some ⟨bw, off, none⟩) n cap ws V → ∀ j, j < n → V.cell? ⟨bw, off + j, none⟩ = some (.string (partAt ws j)) from fun V h j hj => by
    obtain ⟨b', o', e', _, hc⟩ := h.wds.2.2.2 (by omega)
    cases e'
    exact hc j (by rw [h.wds.1]; exact hj))
  have d3 : ¬ (n : Int) < 3 := by omega
  have l0 : (0 : Int) < (n : Int) := by omega
  have l0n : 0 < n := by omega
  have l1 : (1 : Int) < (n : Int) := by omega
  have l2 : (2 : Int) < (n : Int) := by omega
  have k1 := HCell.out _ HP.out 1 (by omega)
  rw [HWd.out.2.1] at k1
  rw [zero_is] at HP k1
  go_enter Tryz.func46, Tryz.ntmps46
  go_wp2_with fail
  clear k1
  generalize w.alloc (.cells #[.int .i64 0, .int .i64 0, .int .i64 0, .int .i64 0, .string ⟨#[]⟩, .string ⟨#[]⟩, .string ⟨#[]⟩, .string ⟨#[]⟩] 26) = W0 at HP ⊢
  refine (parse_k w1 ca cb cc pe W0 HZs.out.1 HP.out.ok.mx HV.out.1 HV.out.2).mono ?_
  rintro e v1 ⟨rfl, hb⟩
  have HP := Lib.hid (HP.out.step hb)
  clear hb
  have hb4 := box_below v1 (.cells #[.int .i64 ca, .int .i64 cb, .int .i64 cc] 23)
  have HB4 := Lib.hid (kbc_new v1 (.cells #[.int .i64 ca, .int .i64 cb, .int .i64 cc] 23))
  have HP := Lib.hid (HP.out.step hb4)
  clear hb4
  go_wp2_with fail
  generalize v1.alloc (.cells #[.int .i64 ca, .int .i64 cb, .int .i64 cc] 23) = W1 at HP HB4 ⊢
  have HL1 := Lib.hid (Csn.KbC.big HP.out.res)
  have HSt := Lib.hid (show ∀ V X : World, (RwP w w.heap.size (some ⟨bw, off, none⟩) n cap ws V ∧ KbC V v1.heap.size (.cells #[.int .i64 ca, .int .i64 cb, .int .i64 cc] 23)) → Below V.heap.size V X → (fun V => V.cell? ⟨v1.heap.size, 0, none⟩ = some (.int .i64 ca) ∧ V.cell? ⟨v1.heap.size, 1, none⟩ = some (.int .i64 cb) ∧ V.cell? ⟨v1.heap.size, 2, none⟩ = some (.int .i64 cc) ∧ V.cell? ⟨bw, off, none⟩ = some (.string w0) ∧ V.cell? ⟨bw, off + 2, none⟩ = some (.string w2) ∧ Hid (RwP w w.heap.size (some ⟨bw, off, none⟩) n cap ws V ∧ KbC V v1.heap.size (.cells #[.int .i64 ca, .int .i64 cb, .int .i64 cc] 23))) X from fun V X h hb => ⟨(Csn.KbC.step h.2 hb).cell rfl, (Csn.KbC.step h.2 hb).cell rfl, (Csn.KbC.step h.2 hb).cell rfl, by have := HCell.out X (h.1.step hb) 0 (by omega); rw [HWd.out.1] at this; exact this, by have := HCell.out X (h.1.step hb) 2 (by omega); rw [HWd.out.2.2.1] at this; exact this, Lib.hid ⟨h.1.step hb, Csn.KbC.step h.2 hb⟩⟩)
  have HQ : Hid (RwP w w.heap.size (some ⟨bw, off, none⟩) n cap ws W1 ∧ KbC W1 v1.heap.size (.cells #[.int .i64 ca, .int .i64 cb, .int .i64 cc] 23)) := Lib.hid ⟨HP.out, HB4.out⟩
  go_cut [6] (fun pv wx => ∃ b6 : Nat, pv = .pointer (some ⟨b6, 0, none⟩) ∧ Hid (w.heap.size < b6 ∧ RwP w w.heap.size (some ⟨bw, off, none⟩) n cap ws wx ∧ KbC wx b6 (.cells #[.int .i64 ca, .int .i64 cb, .int .i64 cc, .int .i64 o, .string w2, .string ⟨#[]⟩, .string ⟨#[]⟩, .string ⟨#[]⟩] 26)))
  case first =>
    have S0 := HSt.out _ _ HQ.out (Below.refl _ _).drew
    have HQd := Lib.hid S0.2.2.2.2.2.out
    refine wp_region_held_drew (S := fun V => V.cell? ⟨v1.heap.size, 0, none⟩ = some (.int .i64 ca) ∧ V.cell? ⟨v1.heap.size, 1, none⟩ = some (.int .i64 cb) ∧ V.cell? ⟨v1.heap.size, 2, none⟩ = some (.int .i64 cc) ∧ V.cell? ⟨bw, off, none⟩ = some (.string w0) ∧ V.cell? ⟨bw, off + 2, none⟩ = some (.string w2) ∧ Hid (RwP w w.heap.size (some ⟨bw, off, none⟩) n cap ws V ∧ KbC V v1.heap.size (.cells #[.int .i64 ca, .int .i64 cb, .int .i64 cc] 23))) (by kernel_rfl) (S0) (fun hS => ?_)
    refine wpAnyH_take (i := 0) (oi := { dst := some 21, op := _, type := _, pos := _, after := _, guard := _ }) (v := ?_) rfl (by kernel_rfl) (by kernel_rfl) (by kernel_rfl) (fun _ _ _ h => h) (Or.inl ⟨by rfl, ?_⟩) (by assumption) ?_
    rotate_left
    · intro w hSw
      try dsimp only at hSw
      go_simp
      try with_reducible rfl
    try simp only [Act.put, List.setIfInBounds_toArray, List.set_cons_zero, List.set_cons_succ]
    refine wpAnyH_take (i := 1) (oi := { dst := some 22, op := _, type := _, pos := _, after := _, guard := _ }) (v := ?_) rfl (by kernel_rfl) (by kernel_rfl) (by kernel_rfl) (fun _ _ _ h => h) (Or.inl ⟨by rfl, ?_⟩) (by assumption) ?_
    rotate_left
    · intro w hSw
      try dsimp only at hSw
      go_simp
      try with_reducible rfl
    try simp only [Act.put, List.setIfInBounds_toArray, List.set_cons_zero, List.set_cons_succ]
    refine wpAnyH_take (i := 2) (oi := { dst := some 23, op := _, type := _, pos := _, after := _, guard := _ }) (v := ?_) rfl (by kernel_rfl) (by kernel_rfl) (by kernel_rfl) (fun _ _ _ h => h) (Or.inl ⟨by rfl, ?_⟩) (by assumption) ?_
    rotate_left
    · intro w hSw
      try dsimp only at hSw
      go_simp
      try with_reducible rfl
    try simp only [Act.put, List.setIfInBounds_toArray, List.set_cons_zero, List.set_cons_succ]
    refine wpAnyH_take (i := 3) (oi := { dst := some 24, op := _, type := _, pos := _, after := _, guard := _ }) (v := ?_) rfl (by kernel_rfl) (by kernel_rfl) (by kernel_rfl) (fun _ _ _ h => h) (Or.inl ⟨by rfl, ?_⟩) (by assumption) ?_
    rotate_left
    · intro w hSw
      try dsimp only at hSw
      go_simp
      try with_reducible rfl
    try simp only [Act.put, List.setIfInBounds_toArray, List.set_cons_zero, List.set_cons_succ]
    refine wpAnyH_take (i := 5) (oi := { dst := some 26, op := _, type := _, pos := _, after := _, guard := _ }) (v := ?_) rfl (by kernel_rfl) (by kernel_rfl) (by kernel_rfl) (fun _ _ _ h => h) (Or.inl ⟨by rfl, ?_⟩) (by assumption) ?_
    rotate_left
    · intro w hSw
      try dsimp only at hSw
      go_simp
      try with_reducible rfl
    try simp only [Act.put, List.setIfInBounds_toArray, List.set_cons_zero, List.set_cons_succ]
    refine wpAnyH_take (i := 6) (oi := { dst := some 27, op := _, type := _, pos := _, after := _, guard := _ }) (v := ?_) rfl (by kernel_rfl) (by kernel_rfl) (by kernel_rfl) (fun _ _ _ h => h) (Or.inl ⟨by rfl, ?_⟩) (by assumption) ?_
    rotate_left
    · intro w hSw
      try dsimp only at hSw
      go_simp
      try with_reducible rfl
    try simp only [Act.put, List.setIfInBounds_toArray, List.set_cons_zero, List.set_cons_succ]
    refine wpAnyH_take (i := 7) (oi := { dst := some 28, op := _, type := _, pos := _, after := _, guard := _ }) (v := ?_) rfl (by kernel_rfl) (by kernel_rfl) (by kernel_rfl) (fun _ _ _ h => h) (Or.inl ⟨by rfl, ?_⟩) (by assumption) ?_
    rotate_left
    · intro w hSw
      try dsimp only at hSw
      go_simp
      try with_reducible rfl
    try simp only [Act.put, List.setIfInBounds_toArray, List.set_cons_zero, List.set_cons_succ]
    refine wpAnyH_ready (rs := [4, 9]) (by kernel_rfl) (by simp) ?_
    refine AllReadyH.cons rfl (fun K hK => ?_) (AllReadyH.cons rfl (fun K hK => ?_) AllReadyH.nil)
    · go_simp
      refine (readOp_k w0 o _ hS.2.2.2.2.2.out.1.ok.op HOo.out).mono ?_
      rintro _ v2 ⟨rfl, hb⟩
      have HQ2 := Lib.hid (HSt.out _ _ hS.2.2.2.2.2.out hb).2.2.2.2.2.out
      have HbD := Lib.hid hb
      clear hb
      go_wp2_with fail
      refine hK.out _ _ ?_ (fun hHeld => ?_)
      · exact HSt.out _ _ HQ2.out (Below.refl _ _)
      clear hK K
      try simp only [Act.put, List.setIfInBounds_toArray, List.set_cons_zero, List.set_cons_succ]
      refine wpAnyH_take (i := 8) (oi := { dst := some 29, op := _, type := _, pos := _, after := _, guard := _ }) (v := ?_) rfl (by kernel_rfl) (by kernel_rfl) (by kernel_rfl) (fun _ _ _ h => h) (Or.inl ⟨by rfl, ?_⟩) (by assumption) ?_
      rotate_left
      · intro w hSw
        try dsimp only at hSw
        go_simp
        try with_reducible rfl
      try simp only [Act.put, List.setIfInBounds_toArray, List.set_cons_zero, List.set_cons_succ]
      refine wpAnyH_ready (rs := [9]) (by kernel_rfl) (by simp) ?_
      refine AllReadyH.cons rfl (fun K hK => ?_) AllReadyH.nil
      go_simp
      refine hK.out _ _ ?_ (fun hHeld => ?_)
      · exact HSt.out _ _ HQ2.out (box_below _ _)
      clear hK K
      skip
      try simp only [Act.put, List.setIfInBounds_toArray, List.set_cons_zero, List.set_cons_succ]
      refine wpAnyH_ready (rs := [10]) (by kernel_rfl) (by simp) ?_
      refine AllReadyH.cons rfl (fun K hK => ?_) AllReadyH.nil
      go_simp
      refine hK.out _ _ ?_ (fun hHeld => ?_)
      · exact HSt.out _ _ HQ2.out (box_below _ _)
      clear hK K
      have HB6 := Lib.hid (kbc_new v2 (.cells #[.int .i64 ca, .int .i64 cb, .int .i64 cc, .int .i64 o, .string w2, .string ⟨#[]⟩, .string ⟨#[]⟩, .string ⟨#[]⟩] 26))
      have HQ3 := Lib.hid (HSt.out _ _ HQ2.out (box_below v2 (.cells #[.int .i64 ca, .int .i64 cb, .int .i64 cc, .int .i64 o, .string w2, .string ⟨#[]⟩, .string ⟨#[]⟩, .string ⟨#[]⟩] 26))).2.2.2.2.2.out
      have HL6 := Lib.hid (Nat.lt_of_lt_of_le HL1.out HbD.out.size)
      try simp only [Act.put, List.setIfInBounds_toArray, List.set_cons_zero, List.set_cons_succ]
      refine wpAnyH_done (by kernel_rfl) ?_ _
      go_wp2_with fail
      go_meet
      exact ⟨_, rfl, Lib.hid ⟨HL6.out, HQ3.out.1, HB6.out⟩⟩
    · go_simp
      refine hK.out _ _ ?_ (fun hHeld => ?_)
      · exact HSt.out _ _ HQd.out (box_below _ _)
      clear hK K
      have HY := Lib.hid (show Below W1.drew.heap.size W1.drew (W1.alloc (.cells #[.int .i64 0, .int .i64 0, .int .i64 0, .int .i64 0, .string ⟨#[]⟩, .string ⟨#[]⟩, .string ⟨#[]⟩, .string ⟨#[]⟩] 26)).drew from box_below W1.drew (.cells #[.int .i64 0, .int .i64 0, .int .i64 0, .int .i64 0, .string ⟨#[]⟩, .string ⟨#[]⟩, .string ⟨#[]⟩, .string ⟨#[]⟩] 26))
      have HZZ : Hid (KbC (W1.alloc (.cells #[.int .i64 0, .int .i64 0, .int .i64 0, .int .i64 0, .string ⟨#[]⟩, .string ⟨#[]⟩, .string ⟨#[]⟩, .string ⟨#[]⟩] 26)).drew W1.heap.size (.cells #[.int .i64 0, .int .i64 0, .int .i64 0, .int .i64 0, .string ⟨#[]⟩, .string ⟨#[]⟩, .string ⟨#[]⟩, .string ⟨#[]⟩] 26)) := Lib.hid (kbc_new W1.drew _)
      try simp only [Act.put, List.setIfInBounds_toArray, List.set_cons_zero, List.set_cons_succ]
      refine wpAnyH_ready (rs := [4]) (by kernel_rfl) (by simp) ?_
      refine AllReadyH.cons rfl (fun K hK => ?_) AllReadyH.nil
      go_simp
      refine (readOp_k w0 o _ hHeld.2.2.2.2.2.out.1.ok.op HOo.out).mono ?_
      rintro _ v2 ⟨rfl, hb⟩
      have HQ2 := Lib.hid (HSt.out _ _ hHeld.2.2.2.2.2.out hb).2.2.2.2.2.out
      have HY := Lib.hid (HY.out.trans (hb.mono HY.out.size))
      have HZZ := Lib.hid (Csn.KbC.step HZZ.out hb)
      clear hb
      have gf : ∀ j, v2.frozen? ⟨W1.heap.size, j, none⟩ = false := fun j => Csn.KbC.frz HZZ.out
      have g0 : v2.cell? ⟨W1.heap.size, 0, none⟩ = some (.int .i64 0) := Csn.KbC.cell HZZ.out rfl
      have g1 : v2.cell? ⟨W1.heap.size, 1, none⟩ = some (.int .i64 0) := Csn.KbC.cell HZZ.out rfl
      have g2 : v2.cell? ⟨W1.heap.size, 2, none⟩ = some (.int .i64 0) := Csn.KbC.cell HZZ.out rfl
      have g3 : v2.cell? ⟨W1.heap.size, 3, none⟩ = some (.int .i64 0) := Csn.KbC.cell HZZ.out rfl
      have g4 : v2.cell? ⟨W1.heap.size, 4, none⟩ = some (.string ⟨#[]⟩) := Csn.KbC.cell HZZ.out rfl
      have g5 : v2.cell? ⟨W1.heap.size, 5, none⟩ = some (.string ⟨#[]⟩) := Csn.KbC.cell HZZ.out rfl
      have g6 : v2.cell? ⟨W1.heap.size, 6, none⟩ = some (.string ⟨#[]⟩) := Csn.KbC.cell HZZ.out rfl
      have g7 : v2.cell? ⟨W1.heap.size, 7, none⟩ = some (.string ⟨#[]⟩) := Csn.KbC.cell HZZ.out rfl
      go_wp2_with fail
      refine hK.out _ _ ?_ (fun hHeld => ?_)
      · exact HSt.out _ _ HQ2.out (Below.refl _ _)
      clear hK K
      try simp only [Act.put, List.setIfInBounds_toArray, List.set_cons_zero, List.set_cons_succ]
      refine wpAnyH_take (i := 8) (oi := { dst := some 29, op := _, type := _, pos := _, after := _, guard := _ }) (v := ?_) rfl (by kernel_rfl) (by kernel_rfl) (by kernel_rfl) (fun _ _ _ h => h) (Or.inl ⟨by rfl, ?_⟩) (by assumption) ?_
      rotate_left
      · intro w hSw
        try dsimp only at hSw
        go_simp
        try with_reducible rfl
      try simp only [Act.put, List.setIfInBounds_toArray, List.set_cons_zero, List.set_cons_succ]
      refine wpAnyH_ready (rs := [10]) (by kernel_rfl) (by simp) ?_
      refine AllReadyH.cons rfl (fun K hK => ?_) AllReadyH.nil
      go_simp
      refine hK.out _ _ ?_ (fun hHeld => ?_)
      · exact HSt.out _ _ HQd.out (below_set8 HY.out (Nat.le_refl _) _ _ _ _ _ _ _ _)
      clear hK K
      have HB6 := Lib.hid (kbc_set8 (u0 := .int .i64 ca) (u1 := .int .i64 cb) (u2 := .int .i64 cc) (u3 := .int .i64 o) (u4 := .string w2) (u5 := .string ⟨#[]⟩) (u6 := .string ⟨#[]⟩) (u7 := .string ⟨#[]⟩) HZZ.out)
      have hbs := below_set8 HY.out (Nat.le_refl _) (.int .i64 ca) (.int .i64 cb) (.int .i64 cc) (.int .i64 o) (.string w2) (.string ⟨#[]⟩) (.string ⟨#[]⟩) (.string ⟨#[]⟩)
      have HQ3 := Lib.hid (HSt.out _ _ HQd.out hbs).2.2.2.2.2.out
      have HL6 := HL1
      clear hbs
      try simp only [Act.put, List.setIfInBounds_toArray, List.set_cons_zero, List.set_cons_succ]
      refine wpAnyH_done (by kernel_rfl) ?_ _
      go_wp2_with fail
      go_meet
      exact ⟨_, rfl, Lib.hid ⟨HL6.out, HQ3.out.1, HB6.out⟩⟩
  case rest =>
    obtain ⟨b6, rfl, HC6⟩ := hcut
    have HP1 := Lib.hid HC6.out.2.1
    have HK1 := Lib.hid (show KbC _ b6 (chB ⟨(ca, cb, cc), o, w2, nilS, nilS, nilS⟩) from HC6.out.2.2)
    have HL := Lib.hid HC6.out.1
    go_wp2_with fail
    refine (fields0_s _ o wc (at8_box HK1.out).c3 hN hV).mono ?_
    rintro e w5 ⟨rfl, rfl⟩
    have HP2 := HP1
    have HK2 := HK1
    by_cases hpe0 : pe = 0
    · have q1 : (pe != 0) = false := by rw [hpe0]; rfl
      by_cases hn4 : n = 3
      · have q2 : ((n : Int) != 3) = false := by rw [hn4]; rfl
        go_wp2_with fail
        refine wp_loop_rounds 1 ?_
        rw [rounds_succ]
        obtain ⟨c0, c1, c2, c3, c4, c5, c6, c7⟩ := at8_box HK2.out
        unfold nilS at c5 c6 c7
        dsimp only at c0 c1 c2 c3 c4 c5 c6 c7
        have gf : ∀ j, (w5).frozen? ⟨w.heap.size, j, none⟩ = false := fun j => Csn.KbC.frz HP2.out.res
        have HG8 : Hid (KbC (w5) w.heap.size (.cells #[.int .i64 0, .int .i64 0, .int .i64 0, .int .i64 0, .string ⟨#[]⟩, .string ⟨#[]⟩, .string ⟨#[]⟩, .string ⟨#[]⟩] 26)) := Lib.hid (zero_is ▸ HP2.out.res)
        have g0 := Csn.KbC.cell (i := 0) HG8.out rfl
        have g1 := Csn.KbC.cell (i := 1) HG8.out rfl
        have g2 := Csn.KbC.cell (i := 2) HG8.out rfl
        have g3 := Csn.KbC.cell (i := 3) HG8.out rfl
        have g4 := Csn.KbC.cell (i := 4) HG8.out rfl
        have g5 := Csn.KbC.cell (i := 5) HG8.out rfl
        have g6 := Csn.KbC.cell (i := 6) HG8.out rfl
        have g7 := Csn.KbC.cell (i := 7) HG8.out rfl
        go_wp2_with fail
        try simp only [Exit.inBlock, Exit.then]
        refine bodyPost_ret (readWords_results _ _ _ _ _ rfl (kbc_set8 HG8.out) rfl) rfl ?_
        exact ⟨by rw [HR.out, if_neg (fun k => k.elim (fun k => k hpe0) (fun k => k hn4))]; rfl, below_set8 HP2.out.low (Nat.le_refl _) _ _ _ _ _ _ _ _⟩
      · have q2 : ((n : Int) != 3) = true := by simp; omega
        have gf : ∀ j, (w5).frozen? ⟨w.heap.size, j, none⟩ = false := fun j => Csn.KbC.frz HP2.out.res
        have HG8 : Hid (KbC (w5) w.heap.size (.cells #[.int .i64 0, .int .i64 0, .int .i64 0, .int .i64 0, .string ⟨#[]⟩, .string ⟨#[]⟩, .string ⟨#[]⟩, .string ⟨#[]⟩] 26)) := Lib.hid (zero_is ▸ HP2.out.res)
        have g0 := Csn.KbC.cell (i := 0) HG8.out rfl
        have g1 := Csn.KbC.cell (i := 1) HG8.out rfl
        have g2 := Csn.KbC.cell (i := 2) HG8.out rfl
        have g3 := Csn.KbC.cell (i := 3) HG8.out rfl
        have g4 := Csn.KbC.cell (i := 4) HG8.out rfl
        have g5 := Csn.KbC.cell (i := 5) HG8.out rfl
        have g6 := Csn.KbC.cell (i := 6) HG8.out rfl
        have g7 := Csn.KbC.cell (i := 7) HG8.out rfl
        go_wp2_with fail
        try simp only [Exit.inBlock, Exit.then]
        refine bodyPost_ret (readWords_results _ _ _ _ _ rfl (kbc_set8 HG8.out) rfl) rfl ?_
        exact ⟨by rw [HR.out, if_pos (.inr hn4)]; rfl, below_set8 HP2.out.low (Nat.le_refl _) _ _ _ _ _ _ _ _⟩
    · have q1 : (pe != 0) = true := by simpa using hpe0
      have gf : ∀ j, (w5).frozen? ⟨w.heap.size, j, none⟩ = false := fun j => Csn.KbC.frz HP2.out.res
      have HG8 : Hid (KbC (w5) w.heap.size (.cells #[.int .i64 0, .int .i64 0, .int .i64 0, .int .i64 0, .string ⟨#[]⟩, .string ⟨#[]⟩, .string ⟨#[]⟩, .string ⟨#[]⟩] 26)) := Lib.hid (zero_is ▸ HP2.out.res)
      have g0 := Csn.KbC.cell (i := 0) HG8.out rfl
      have g1 := Csn.KbC.cell (i := 1) HG8.out rfl
      have g2 := Csn.KbC.cell (i := 2) HG8.out rfl
      have g3 := Csn.KbC.cell (i := 3) HG8.out rfl
      have g4 := Csn.KbC.cell (i := 4) HG8.out rfl
      have g5 := Csn.KbC.cell (i := 5) HG8.out rfl
      have g6 := Csn.KbC.cell (i := 6) HG8.out rfl
      have g7 := Csn.KbC.cell (i := 7) HG8.out rfl
      go_wp2_with fail
      try simp only [Exit.inBlock, Exit.then]
      refine bodyPost_ret (readWords_results _ _ _ _ _ rfl (kbc_set8 HG8.out) rfl) rfl ?_
      exact ⟨by rw [HR.out, if_pos (.inl hpe0)]; rfl, below_set8 HP2.out.low (Nat.le_refl _) _ _ _ _ _ _ _ _⟩
end Go.Proofs.YtbkignlbcneddaaGreatDoor
end
