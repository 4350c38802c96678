/-
  Texts of the schema layer and of those beneath it, joined: ChgK9. Conditions stand at each contract.
-/
import Derived.Test.YtbkignlbcneddaaGreatDoorX18
set_option linter.unusedVariables false
set_option linter.unusedSimpArgs false
set_option linter.unnecessarySimpa false

section
/-
  Contract of the specification's Line of a change record. Condition: strings of at most 1000000 bytes.
-/
set_option maxRecDepth 100000
namespace Go.Proofs.YtbkignlbcneddaaGreatDoor
open Go.RowKit Go.PlainAid
open Csn (Cn cnV KbC kbc_new box_below box_lt parEC parVC vldC fmtS TzOk)
theorem app_list (a b : ByteArray) : (a ++ b).data.toList = a.data.toList ++ b.data.toList := by rw [ByteArray.data_append]; simp
theorem join_list (c : UInt8) (l : List ByteArray) : (joinB c l).data.toList = Lib.join (l.map (·.data.toList)) [c] := rfl
theorem joinB_two (c : UInt8) (x y : ByteArray) (r : List ByteArray) : (joinB c (x :: y :: r)).data.toList = x.data.toList ++ c :: (joinB c (y :: r)).data.toList := by
  rw [join_list, join_list]
  exact join_two _ _ _ _
theorem joinB_one (c : UInt8) (x : ByteArray) : (joinB c [x]).data.toList = x.data.toList := by rw [join_list]; exact Lib.join_one _ _
theorem sp_list (c : UInt8) : (⟨#[c]⟩ : ByteArray).data.toList = [c] := rfl
theorem join3 (a b c : ByteArray) : a ++ ⟨#[32]⟩ ++ b ++ ⟨#[32]⟩ ++ c = joinB 32 [a, b, c] := by
  refine ba_ext ?_
  rw [joinB_two, joinB_two, joinB_one]
  simp only [app_list, sp_list, List.append_assoc, List.cons_append, List.nil_append]
theorem join4 (a b c d : ByteArray) : a ++ ⟨#[32]⟩ ++ b ++ ⟨#[32]⟩ ++ c ++ ⟨#[32]⟩ ++ d = joinB 32 [a, b, c, d] := by
  refine ba_ext ?_
  rw [joinB_two, joinB_two, joinB_two, joinB_one]
  simp only [app_list, sp_list, List.append_assoc, List.cons_append, List.nil_append]
theorem join5 (a b c d e : ByteArray) : a ++ ⟨#[32]⟩ ++ b ++ ⟨#[32]⟩ ++ c ++ ⟨#[32]⟩ ++ d ++ ⟨#[32]⟩ ++ e = joinB 32 [a, b, c, d, e] := by
  refine ba_ext ?_
  rw [joinB_two, joinB_two, joinB_two, joinB_two, joinB_one]
  simp only [app_list, sp_list, List.append_assoc, List.cons_append, List.nil_append]
theorem rescape_k (s r : ByteArray) (w : World) (hs : s.size ≤ 1000000) (hr : escA s = r) :
    Calls Tryz.prog 45 #[.string s] w fun e w' => e = .returned (.string r) ∧ Below w.heap.size w w' := by subst hr; exact rescape_any s w (by omega)
theorem rword_k (o : Int) (r : ByteArray) (w : World) (h1 : 1 ≤ o) (h5 : o ≤ 5) (hr : wordW o = r) :
    Calls Tryz.prog 43 #[.int .i64 o] w fun e w' => e = .returned (.string r) ∧ Below w.heap.size w w' := by subst hr; exact word_s o w h1 h5
theorem rformat_k (t s r : Int) (x : ByteArray) (w : World) (hr : fmtS (t, s, r) = x) :
    Calls Tryz.prog 44 #[.agg #[.int .i64 t, .int .i64 s, .int .i64 r]] w fun e w' => e = .returned (.string x) ∧ Below w.heap.size w w' := by subst hr; exact Csn.rformat_s (t, s, r) w
set_option maxHeartbeats 8000000 in
theorem rline1_s (t s r : Int) (i n a v : ByteArray) (w : World) (hz : SmG ⟨(t, s, r), 1, i, n, a, v⟩) (ho : MaxOk w) (hc : chkG ⟨(t, s, r), 1, i, n, a, v⟩ = 0) :
    Calls Tryz.prog 14 #[chV ⟨(t, s, r), 1, i, n, a, v⟩] w fun e w' => e = .returned (.tuple #[.string (lineG ⟨(t, s, r), 1, i, n, a, v⟩), .int .i64 0]) ∧ Below w.heap.size w w' := by
  have HCk := Lib.hid (fun W (h : MaxOk W) => rchkg_s ⟨(t, s, r), 1, i, n, a, v⟩ W hz h)
  rw [hc] at HCk
  rw [chV_is] at HCk ⊢
  have HK := Lib.hid (bxg_new w ⟨(t, s, r), 1, i, n, a, v⟩ ho)
  rw [chB_is] at HK
  obtain ⟨z1, z2, z3, z4⟩ := hz
  dsimp only at z1 z2 z3 z4
  have HZ := Lib.hid (And.intro z1 (And.intro z2 (And.intro z3 z4)))
  obtain ⟨wd, hwd⟩ : ∃ x, wordW 1 = x := ⟨_, rfl⟩
  obtain ⟨fm, hfm⟩ : ∃ x, fmtS (t, s, r) = x := ⟨_, rfl⟩
  have HWd := Lib.hid hwd
  have HFm := Lib.hid hfm
  have y1 := word_size 1
  have y2 := fmt_size (t, s, r)
  rw [hwd] at y1
  rw [hfm] at y2
  obtain ⟨x1, hx1⟩ : ∃ x, escA n = x := ⟨_, rfl⟩
  have HX1 := Lib.hid hx1
  have y3 := esc_size n z2
  rw [hx1] at y3
  have HLn := Lib.hid (show joinB 32 [wd, fm, i, x1] = lineG ⟨(t, s, r), 1, i, n, a, v⟩ from by rw [← hwd, ← hfm, ← hx1]; rfl)
  clear hwd hfm hc z1 z2 z3 z4 ho hx1
  have hi : i.size ≤ 1000000 := HZ.out.1
  have zq0 : ¬ 9223372036854775807 < wd.size + 1 := by omega
  have zq1 : ¬ 9223372036854775807 < wd.size + 1 + fm.size := by omega
  have zq2 : ¬ 9223372036854775807 < wd.size + 1 + fm.size + 1 := by omega
  have zq3 : ¬ 9223372036854775807 < wd.size + 1 + fm.size + 1 + i.size := by omega
  have zq4 : ¬ 9223372036854775807 < wd.size + 1 + fm.size + 1 + i.size + 1 := by omega
  have zq5 : ¬ 9223372036854775807 < wd.size + 1 + fm.size + 1 + i.size + 1 + x1.size := by omega
  clear hi y1 y2 y3
  have HSt := Lib.hid (show ∀ V : World, BxG w w.heap.size ⟨(t, s, r), 1, i, n, a, v⟩ V → (fun V => V.cell? ⟨w.heap.size, 3, none⟩ = some (.int .i64 1) ∧ V.cell? ⟨w.heap.size, 0, none⟩ = some (.int .i64 t) ∧ V.cell? ⟨w.heap.size, 1, none⟩ = some (.int .i64 s) ∧ V.cell? ⟨w.heap.size, 2, none⟩ = some (.int .i64 r) ∧ V.cell? ⟨w.heap.size, 4, none⟩ = some (.string i) ∧ V.cell? ⟨w.heap.size, 6, none⟩ = some (.string a) ∧ V.cell? ⟨w.heap.size, 7, none⟩ = some (.string v) ∧ Hid (BxG w w.heap.size ⟨(t, s, r), 1, i, n, a, v⟩ V)) V from fun V h => ⟨(at8_box h.box).c3, (at8_box h.box).c0, (at8_box h.box).c1, (at8_box h.box).c2, (at8_box h.box).c4, (at8_box h.box).c6, (at8_box h.box).c7, Lib.hid h⟩)
  rw [← HLn.out]
  obtain ⟨c0, c1, c2, c3, c4, c5, c6, c7⟩ := at8_box HK.out.box
  dsimp only at c0 c1 c2 c3 c4 c5 c6 c7
  go_enter Tryz.func14, Tryz.ntmps14
  go_wp2_with fail
  clear c0 c1 c2 c3 c4 c5 c6 c7
  generalize w.alloc (.cells #[.int .i64 t, .int .i64 s, .int .i64 r, .int .i64 1, .string i, .string n, .string a, .string v] 26) = W0 at HK ⊢
  refine (HCk.out W0 HK.out.ok).mono ?_
  rintro e w1 ⟨rfl, hb⟩
  have HK := Lib.hid (HK.out.step hb)
  clear hb
  go_wp2_with fail
  have S0 := HSt.out _ HK.out.drew
  refine wp_region_held_drew (S := fun V => V.cell? ⟨w.heap.size, 3, none⟩ = some (.int .i64 1) ∧ V.cell? ⟨w.heap.size, 0, none⟩ = some (.int .i64 t) ∧ V.cell? ⟨w.heap.size, 1, none⟩ = some (.int .i64 s) ∧ V.cell? ⟨w.heap.size, 2, none⟩ = some (.int .i64 r) ∧ V.cell? ⟨w.heap.size, 4, none⟩ = some (.string i) ∧ V.cell? ⟨w.heap.size, 6, none⟩ = some (.string a) ∧ V.cell? ⟨w.heap.size, 7, none⟩ = some (.string v) ∧ Hid (BxG w w.heap.size ⟨(t, s, r), 1, i, n, a, v⟩ V)) (by kernel_rfl) (S0) (fun hS => ?_)
  refine wpAnyH_take (i := 0) (oi := { dst := some 11, op := _, type := _, pos := _, after := _, guard := _ }) (v := ?_) rfl (by kernel_rfl) (by kernel_rfl) (by kernel_rfl) (fun _ _ _ h => h) (Or.inl ⟨by rfl, ?_⟩) (by assumption) ?_
  rotate_left
  · intro w hSw
    try dsimp only at hSw
    go_simp
    try with_reducible rfl
  try simp only [Act.put, List.setIfInBounds_toArray, List.set_cons_zero, List.set_cons_succ]
  refine wpAnyH_take (i := 1) (oi := { dst := some 12, op := _, type := _, pos := _, after := _, guard := _ }) (v := ?_) rfl (by kernel_rfl) (by kernel_rfl) (by kernel_rfl) (fun _ _ _ h => h) (Or.inl ⟨by rfl, ?_⟩) (by assumption) ?_
  rotate_left
  · intro w hSw
    try dsimp only at hSw
    go_simp
    try with_reducible rfl
  try simp only [Act.put, List.setIfInBounds_toArray, List.set_cons_zero, List.set_cons_succ]
  refine wpAnyH_take (i := 4) (oi := { dst := some 15, op := _, type := _, pos := _, after := _, guard := _ }) (v := ?_) rfl (by kernel_rfl) (by kernel_rfl) (by kernel_rfl) (fun _ _ _ h => h) (Or.inl ⟨by rfl, ?_⟩) (by assumption) ?_
  rotate_left
  · intro w hSw
    try dsimp only at hSw
    go_simp
    try with_reducible rfl
  try simp only [Act.put, List.setIfInBounds_toArray, List.set_cons_zero, List.set_cons_succ]
  refine wpAnyH_take (i := 5) (oi := { dst := some 16, op := _, type := _, pos := _, after := _, guard := _ }) (v := ?_) rfl (by kernel_rfl) (by kernel_rfl) (by kernel_rfl) (fun _ _ _ h => h) (Or.inl ⟨by rfl, ?_⟩) (by assumption) ?_
  rotate_left
  · intro w hSw
    try dsimp only at hSw
    go_simp
    try with_reducible rfl
  try simp only [Act.put, List.setIfInBounds_toArray, List.set_cons_zero, List.set_cons_succ]
  refine wpAnyH_take (i := 9) (oi := { dst := some 20, op := _, type := _, pos := _, after := _, guard := _ }) (v := ?_) rfl (by kernel_rfl) (by kernel_rfl) (by kernel_rfl) (fun _ _ _ h => h) (Or.inl ⟨by rfl, ?_⟩) (by assumption) ?_
  rotate_left
  · intro w hSw
    try dsimp only at hSw
    go_simp
    try with_reducible rfl
  try simp only [Act.put, List.setIfInBounds_toArray, List.set_cons_zero, List.set_cons_succ]
  refine wpAnyH_take (i := 10) (oi := { dst := some 21, op := _, type := _, pos := _, after := _, guard := _ }) (v := ?_) rfl (by kernel_rfl) (by kernel_rfl) (by kernel_rfl) (fun _ _ _ h => h) (Or.inl ⟨by rfl, ?_⟩) (by assumption) ?_
  rotate_left
  · intro w hSw
    try dsimp only at hSw
    go_simp
    try with_reducible rfl
  try simp only [Act.put, List.setIfInBounds_toArray, List.set_cons_zero, List.set_cons_succ]
  refine wpAnyH_ready (rs := [2]) (by kernel_rfl) (by simp) ?_
  refine AllReadyH.cons rfl (fun K hK => ?_) AllReadyH.nil
  go_simp
  refine (rword_k 1 wd _ (by decide) (by decide) HWd.out).mono ?_
  rintro e v1 ⟨rfl, hb⟩
  have HK1 := Lib.hid (hS.2.2.2.2.2.2.2.out.step hb)
  clear hb
  go_wp2_with fail
  refine hK.out _ _ ?_ (fun hHeld => ?_)
  · exact HSt.out _ HK1.out
  clear hK K
  try simp only [Act.put, List.setIfInBounds_toArray, List.set_cons_zero, List.set_cons_succ]
  refine wpAnyH_take (i := 3) (oi := { dst := some 14, op := _, type := _, pos := _, after := _, guard := _ }) (v := ?_) rfl (by kernel_rfl) (by kernel_rfl) (by kernel_rfl) (fun _ _ _ h => h) (Or.inl ⟨by rfl, ?_⟩) (by assumption) ?_
  rotate_left
  · intro w hSw
    try dsimp only at hSw
    go_simp
    try with_reducible rfl
  try simp only [Act.put, List.setIfInBounds_toArray, List.set_cons_zero, List.set_cons_succ]
  refine wpAnyH_ready (rs := [6]) (by kernel_rfl) (by simp) ?_
  refine AllReadyH.cons rfl (fun K hK => ?_) AllReadyH.nil
  go_simp
  refine (rformat_k t s r fm _ HFm.out).mono ?_
  rintro e v2 ⟨rfl, hb⟩
  have HK2 := Lib.hid (HK1.out.step hb)
  clear hb
  go_wp2_with fail
  refine hK.out _ _ ?_ (fun hHeld => ?_)
  · exact HSt.out _ HK2.out
  clear hK K
  try simp only [Act.put, List.setIfInBounds_toArray, List.set_cons_zero, List.set_cons_succ]
  refine wpAnyH_take (i := 7) (oi := { dst := some 18, op := _, type := _, pos := _, after := _, guard := _ }) (v := ?_) rfl (by kernel_rfl) (by kernel_rfl) (by kernel_rfl) (fun _ _ _ h => h) (Or.inl ⟨by rfl, ?_⟩) (by assumption) ?_
  rotate_left
  · intro w hSw
    try dsimp only at hSw
    go_simp
    try with_reducible rfl
  try simp only [Act.put, List.setIfInBounds_toArray, List.set_cons_zero, List.set_cons_succ]
  refine wpAnyH_take (i := 8) (oi := { dst := some 19, op := _, type := _, pos := _, after := _, guard := _ }) (v := ?_) rfl (by kernel_rfl) (by kernel_rfl) (by kernel_rfl) (fun _ _ _ h => h) (Or.inl ⟨by rfl, ?_⟩) (by assumption) ?_
  rotate_left
  · intro w hSw
    try dsimp only at hSw
    go_simp
    try with_reducible rfl
  try simp only [Act.put, List.setIfInBounds_toArray, List.set_cons_zero, List.set_cons_succ]
  refine wpAnyH_take (i := 11) (oi := { dst := some 22, op := _, type := _, pos := _, after := _, guard := _ }) (v := ?_) rfl (by kernel_rfl) (by kernel_rfl) (by kernel_rfl) (fun _ _ _ h => h) (Or.inl ⟨by rfl, ?_⟩) (by assumption) ?_
  rotate_left
  · intro w hSw
    try dsimp only at hSw
    go_simp
    try with_reducible rfl
  try simp only [Act.put, List.setIfInBounds_toArray, List.set_cons_zero, List.set_cons_succ]
  refine wpAnyH_take (i := 12) (oi := { dst := some 5, op := _, type := _, pos := _, after := _, guard := _ }) (v := ?_) rfl (by kernel_rfl) (by kernel_rfl) (by kernel_rfl) (fun _ _ _ h => h) (Or.inl ⟨by rfl, ?_⟩) (by assumption) ?_
  rotate_left
  · intro w hSw
    try dsimp only at hSw
    go_simp
    try with_reducible rfl
  try simp only [Act.put, List.setIfInBounds_toArray, List.set_cons_zero, List.set_cons_succ]
  refine wpAnyH_done (by kernel_rfl) ?_ _
  clear hHeld S0 hS
  have HK := HK2
  clear HK1 HK2
  have c3 := (at8_box HK.out.box).c3
  have c5 := (at8_box HK.out.box).c5
  dsimp only at c3 c5
  go_wp2_with fail
  refine (rescape_k n x1 _ HZ.out.2.1 HX1.out).mono ?_
  rintro e w5 ⟨rfl, hb⟩
  have HK := Lib.hid (HK.out.step hb)
  clear hb
  go_wp2_with fail
  go_ret2
  exact ⟨by rw [← join4] <;> rfl, HK.out.low⟩
set_option maxHeartbeats 8000000 in
theorem rline2_s (t s r : Int) (i n a v : ByteArray) (w : World) (hz : SmG ⟨(t, s, r), 2, i, n, a, v⟩) (ho : MaxOk w) (hc : chkG ⟨(t, s, r), 2, i, n, a, v⟩ = 0) :
    Calls Tryz.prog 14 #[chV ⟨(t, s, r), 2, i, n, a, v⟩] w fun e w' => e = .returned (.tuple #[.string (lineG ⟨(t, s, r), 2, i, n, a, v⟩), .int .i64 0]) ∧ Below w.heap.size w w' := by
  have HCk := Lib.hid (fun W (h : MaxOk W) => rchkg_s ⟨(t, s, r), 2, i, n, a, v⟩ W hz h)
  rw [hc] at HCk
  rw [chV_is] at HCk ⊢
  have HK := Lib.hid (bxg_new w ⟨(t, s, r), 2, i, n, a, v⟩ ho)
  rw [chB_is] at HK
  obtain ⟨z1, z2, z3, z4⟩ := hz
  dsimp only at z1 z2 z3 z4
  have HZ := Lib.hid (And.intro z1 (And.intro z2 (And.intro z3 z4)))
  obtain ⟨wd, hwd⟩ : ∃ x, wordW 2 = x := ⟨_, rfl⟩
  obtain ⟨fm, hfm⟩ : ∃ x, fmtS (t, s, r) = x := ⟨_, rfl⟩
  have HWd := Lib.hid hwd
  have HFm := Lib.hid hfm
  have y1 := word_size 2
  have y2 := fmt_size (t, s, r)
  rw [hwd] at y1
  rw [hfm] at y2
  have HLn := Lib.hid (show joinB 32 [wd, fm, i] = lineG ⟨(t, s, r), 2, i, n, a, v⟩ from by rw [← hwd, ← hfm]; rfl)
  clear hwd hfm hc z1 z2 z3 z4 ho 
  have hi : i.size ≤ 1000000 := HZ.out.1
  have zq0 : ¬ 9223372036854775807 < wd.size + 1 := by omega
  have zq1 : ¬ 9223372036854775807 < wd.size + 1 + fm.size := by omega
  have zq2 : ¬ 9223372036854775807 < wd.size + 1 + fm.size + 1 := by omega
  have zq3 : ¬ 9223372036854775807 < wd.size + 1 + fm.size + 1 + i.size := by omega
  clear hi y1 y2 
  have HSt := Lib.hid (show ∀ V : World, BxG w w.heap.size ⟨(t, s, r), 2, i, n, a, v⟩ V → (fun V => V.cell? ⟨w.heap.size, 3, none⟩ = some (.int .i64 2) ∧ V.cell? ⟨w.heap.size, 0, none⟩ = some (.int .i64 t) ∧ V.cell? ⟨w.heap.size, 1, none⟩ = some (.int .i64 s) ∧ V.cell? ⟨w.heap.size, 2, none⟩ = some (.int .i64 r) ∧ V.cell? ⟨w.heap.size, 4, none⟩ = some (.string i) ∧ V.cell? ⟨w.heap.size, 6, none⟩ = some (.string a) ∧ V.cell? ⟨w.heap.size, 7, none⟩ = some (.string v) ∧ Hid (BxG w w.heap.size ⟨(t, s, r), 2, i, n, a, v⟩ V)) V from fun V h => ⟨(at8_box h.box).c3, (at8_box h.box).c0, (at8_box h.box).c1, (at8_box h.box).c2, (at8_box h.box).c4, (at8_box h.box).c6, (at8_box h.box).c7, Lib.hid h⟩)
  rw [← HLn.out]
  obtain ⟨c0, c1, c2, c3, c4, c5, c6, c7⟩ := at8_box HK.out.box
  dsimp only at c0 c1 c2 c3 c4 c5 c6 c7
  go_enter Tryz.func14, Tryz.ntmps14
  go_wp2_with fail
  clear c0 c1 c2 c3 c4 c5 c6 c7
  generalize w.alloc (.cells #[.int .i64 t, .int .i64 s, .int .i64 r, .int .i64 2, .string i, .string n, .string a, .string v] 26) = W0 at HK ⊢
  refine (HCk.out W0 HK.out.ok).mono ?_
  rintro e w1 ⟨rfl, hb⟩
  have HK := Lib.hid (HK.out.step hb)
  clear hb
  go_wp2_with fail
  have S0 := HSt.out _ HK.out.drew
  refine wp_region_held_drew (S := fun V => V.cell? ⟨w.heap.size, 3, none⟩ = some (.int .i64 2) ∧ V.cell? ⟨w.heap.size, 0, none⟩ = some (.int .i64 t) ∧ V.cell? ⟨w.heap.size, 1, none⟩ = some (.int .i64 s) ∧ V.cell? ⟨w.heap.size, 2, none⟩ = some (.int .i64 r) ∧ V.cell? ⟨w.heap.size, 4, none⟩ = some (.string i) ∧ V.cell? ⟨w.heap.size, 6, none⟩ = some (.string a) ∧ V.cell? ⟨w.heap.size, 7, none⟩ = some (.string v) ∧ Hid (BxG w w.heap.size ⟨(t, s, r), 2, i, n, a, v⟩ V)) (by kernel_rfl) (S0) (fun hS => ?_)
  refine wpAnyH_take (i := 0) (oi := { dst := some 11, op := _, type := _, pos := _, after := _, guard := _ }) (v := ?_) rfl (by kernel_rfl) (by kernel_rfl) (by kernel_rfl) (fun _ _ _ h => h) (Or.inl ⟨by rfl, ?_⟩) (by assumption) ?_
  rotate_left
  · intro w hSw
    try dsimp only at hSw
    go_simp
    try with_reducible rfl
  try simp only [Act.put, List.setIfInBounds_toArray, List.set_cons_zero, List.set_cons_succ]
  refine wpAnyH_take (i := 1) (oi := { dst := some 12, op := _, type := _, pos := _, after := _, guard := _ }) (v := ?_) rfl (by kernel_rfl) (by kernel_rfl) (by kernel_rfl) (fun _ _ _ h => h) (Or.inl ⟨by rfl, ?_⟩) (by assumption) ?_
  rotate_left
  · intro w hSw
    try dsimp only at hSw
    go_simp
    try with_reducible rfl
  try simp only [Act.put, List.setIfInBounds_toArray, List.set_cons_zero, List.set_cons_succ]
  refine wpAnyH_take (i := 4) (oi := { dst := some 15, op := _, type := _, pos := _, after := _, guard := _ }) (v := ?_) rfl (by kernel_rfl) (by kernel_rfl) (by kernel_rfl) (fun _ _ _ h => h) (Or.inl ⟨by rfl, ?_⟩) (by assumption) ?_
  rotate_left
  · intro w hSw
    try dsimp only at hSw
    go_simp
    try with_reducible rfl
  try simp only [Act.put, List.setIfInBounds_toArray, List.set_cons_zero, List.set_cons_succ]
  refine wpAnyH_take (i := 5) (oi := { dst := some 16, op := _, type := _, pos := _, after := _, guard := _ }) (v := ?_) rfl (by kernel_rfl) (by kernel_rfl) (by kernel_rfl) (fun _ _ _ h => h) (Or.inl ⟨by rfl, ?_⟩) (by assumption) ?_
  rotate_left
  · intro w hSw
    try dsimp only at hSw
    go_simp
    try with_reducible rfl
  try simp only [Act.put, List.setIfInBounds_toArray, List.set_cons_zero, List.set_cons_succ]
  refine wpAnyH_take (i := 9) (oi := { dst := some 20, op := _, type := _, pos := _, after := _, guard := _ }) (v := ?_) rfl (by kernel_rfl) (by kernel_rfl) (by kernel_rfl) (fun _ _ _ h => h) (Or.inl ⟨by rfl, ?_⟩) (by assumption) ?_
  rotate_left
  · intro w hSw
    try dsimp only at hSw
    go_simp
    try with_reducible rfl
  try simp only [Act.put, List.setIfInBounds_toArray, List.set_cons_zero, List.set_cons_succ]
  refine wpAnyH_take (i := 10) (oi := { dst := some 21, op := _, type := _, pos := _, after := _, guard := _ }) (v := ?_) rfl (by kernel_rfl) (by kernel_rfl) (by kernel_rfl) (fun _ _ _ h => h) (Or.inl ⟨by rfl, ?_⟩) (by assumption) ?_
  rotate_left
  · intro w hSw
    try dsimp only at hSw
    go_simp
    try with_reducible rfl
  try simp only [Act.put, List.setIfInBounds_toArray, List.set_cons_zero, List.set_cons_succ]
  refine wpAnyH_ready (rs := [2]) (by kernel_rfl) (by simp) ?_
  refine AllReadyH.cons rfl (fun K hK => ?_) AllReadyH.nil
  go_simp
  refine (rword_k 2 wd _ (by decide) (by decide) HWd.out).mono ?_
  rintro e v1 ⟨rfl, hb⟩
  have HK1 := Lib.hid (hS.2.2.2.2.2.2.2.out.step hb)
  clear hb
  go_wp2_with fail
  refine hK.out _ _ ?_ (fun hHeld => ?_)
  · exact HSt.out _ HK1.out
  clear hK K
  try simp only [Act.put, List.setIfInBounds_toArray, List.set_cons_zero, List.set_cons_succ]
  refine wpAnyH_take (i := 3) (oi := { dst := some 14, op := _, type := _, pos := _, after := _, guard := _ }) (v := ?_) rfl (by kernel_rfl) (by kernel_rfl) (by kernel_rfl) (fun _ _ _ h => h) (Or.inl ⟨by rfl, ?_⟩) (by assumption) ?_
  rotate_left
  · intro w hSw
    try dsimp only at hSw
    go_simp
    try with_reducible rfl
  try simp only [Act.put, List.setIfInBounds_toArray, List.set_cons_zero, List.set_cons_succ]
  refine wpAnyH_ready (rs := [6]) (by kernel_rfl) (by simp) ?_
  refine AllReadyH.cons rfl (fun K hK => ?_) AllReadyH.nil
  go_simp
  refine (rformat_k t s r fm _ HFm.out).mono ?_
  rintro e v2 ⟨rfl, hb⟩
  have HK2 := Lib.hid (HK1.out.step hb)
  clear hb
  go_wp2_with fail
  refine hK.out _ _ ?_ (fun hHeld => ?_)
  · exact HSt.out _ HK2.out
  clear hK K
  try simp only [Act.put, List.setIfInBounds_toArray, List.set_cons_zero, List.set_cons_succ]
  refine wpAnyH_take (i := 7) (oi := { dst := some 18, op := _, type := _, pos := _, after := _, guard := _ }) (v := ?_) rfl (by kernel_rfl) (by kernel_rfl) (by kernel_rfl) (fun _ _ _ h => h) (Or.inl ⟨by rfl, ?_⟩) (by assumption) ?_
  rotate_left
  · intro w hSw
    try dsimp only at hSw
    go_simp
    try with_reducible rfl
  try simp only [Act.put, List.setIfInBounds_toArray, List.set_cons_zero, List.set_cons_succ]
  refine wpAnyH_take (i := 8) (oi := { dst := some 19, op := _, type := _, pos := _, after := _, guard := _ }) (v := ?_) rfl (by kernel_rfl) (by kernel_rfl) (by kernel_rfl) (fun _ _ _ h => h) (Or.inl ⟨by rfl, ?_⟩) (by assumption) ?_
  rotate_left
  · intro w hSw
    try dsimp only at hSw
    go_simp
    try with_reducible rfl
  try simp only [Act.put, List.setIfInBounds_toArray, List.set_cons_zero, List.set_cons_succ]
  refine wpAnyH_take (i := 11) (oi := { dst := some 22, op := _, type := _, pos := _, after := _, guard := _ }) (v := ?_) rfl (by kernel_rfl) (by kernel_rfl) (by kernel_rfl) (fun _ _ _ h => h) (Or.inl ⟨by rfl, ?_⟩) (by assumption) ?_
  rotate_left
  · intro w hSw
    try dsimp only at hSw
    go_simp
    try with_reducible rfl
  try simp only [Act.put, List.setIfInBounds_toArray, List.set_cons_zero, List.set_cons_succ]
  refine wpAnyH_take (i := 12) (oi := { dst := some 5, op := _, type := _, pos := _, after := _, guard := _ }) (v := ?_) rfl (by kernel_rfl) (by kernel_rfl) (by kernel_rfl) (fun _ _ _ h => h) (Or.inl ⟨by rfl, ?_⟩) (by assumption) ?_
  rotate_left
  · intro w hSw
    try dsimp only at hSw
    go_simp
    try with_reducible rfl
  try simp only [Act.put, List.setIfInBounds_toArray, List.set_cons_zero, List.set_cons_succ]
  refine wpAnyH_done (by kernel_rfl) ?_ _
  clear hHeld S0 hS
  have HK := HK2
  clear HK1 HK2
  have c3 := (at8_box HK.out.box).c3
  have c5 := (at8_box HK.out.box).c5
  dsimp only at c3 c5
  go_wp2_with fail
  go_ret2
  exact ⟨by rw [← join3] <;> rfl, HK.out.low⟩
set_option maxHeartbeats 8000000 in
theorem rline3_s (t s r : Int) (i n a v : ByteArray) (w : World) (hz : SmG ⟨(t, s, r), 3, i, n, a, v⟩) (ho : MaxOk w) (hc : chkG ⟨(t, s, r), 3, i, n, a, v⟩ = 0) :
    Calls Tryz.prog 14 #[chV ⟨(t, s, r), 3, i, n, a, v⟩] w fun e w' => e = .returned (.tuple #[.string (lineG ⟨(t, s, r), 3, i, n, a, v⟩), .int .i64 0]) ∧ Below w.heap.size w w' := by
  have HCk := Lib.hid (fun W (h : MaxOk W) => rchkg_s ⟨(t, s, r), 3, i, n, a, v⟩ W hz h)
  rw [hc] at HCk
  rw [chV_is] at HCk ⊢
  have HK := Lib.hid (bxg_new w ⟨(t, s, r), 3, i, n, a, v⟩ ho)
  rw [chB_is] at HK
  obtain ⟨z1, z2, z3, z4⟩ := hz
  dsimp only at z1 z2 z3 z4
  have HZ := Lib.hid (And.intro z1 (And.intro z2 (And.intro z3 z4)))
  obtain ⟨wd, hwd⟩ : ∃ x, wordW 3 = x := ⟨_, rfl⟩
  obtain ⟨fm, hfm⟩ : ∃ x, fmtS (t, s, r) = x := ⟨_, rfl⟩
  have HWd := Lib.hid hwd
  have HFm := Lib.hid hfm
  have y1 := word_size 3
  have y2 := fmt_size (t, s, r)
  rw [hwd] at y1
  rw [hfm] at y2
  obtain ⟨x1, hx1⟩ : ∃ x, escA n = x := ⟨_, rfl⟩
  have HX1 := Lib.hid hx1
  have y3 := esc_size n z2
  rw [hx1] at y3
  have HLn := Lib.hid (show joinB 32 [wd, fm, i, x1] = lineG ⟨(t, s, r), 3, i, n, a, v⟩ from by rw [← hwd, ← hfm, ← hx1]; rfl)
  clear hwd hfm hc z1 z2 z3 z4 ho hx1
  have hi : i.size ≤ 1000000 := HZ.out.1
  have zq0 : ¬ 9223372036854775807 < wd.size + 1 := by omega
  have zq1 : ¬ 9223372036854775807 < wd.size + 1 + fm.size := by omega
  have zq2 : ¬ 9223372036854775807 < wd.size + 1 + fm.size + 1 := by omega
  have zq3 : ¬ 9223372036854775807 < wd.size + 1 + fm.size + 1 + i.size := by omega
  have zq4 : ¬ 9223372036854775807 < wd.size + 1 + fm.size + 1 + i.size + 1 := by omega
  have zq5 : ¬ 9223372036854775807 < wd.size + 1 + fm.size + 1 + i.size + 1 + x1.size := by omega
  clear hi y1 y2 y3
  have HSt := Lib.hid (show ∀ V : World, BxG w w.heap.size ⟨(t, s, r), 3, i, n, a, v⟩ V → (fun V => V.cell? ⟨w.heap.size, 3, none⟩ = some (.int .i64 3) ∧ V.cell? ⟨w.heap.size, 0, none⟩ = some (.int .i64 t) ∧ V.cell? ⟨w.heap.size, 1, none⟩ = some (.int .i64 s) ∧ V.cell? ⟨w.heap.size, 2, none⟩ = some (.int .i64 r) ∧ V.cell? ⟨w.heap.size, 4, none⟩ = some (.string i) ∧ V.cell? ⟨w.heap.size, 6, none⟩ = some (.string a) ∧ V.cell? ⟨w.heap.size, 7, none⟩ = some (.string v) ∧ Hid (BxG w w.heap.size ⟨(t, s, r), 3, i, n, a, v⟩ V)) V from fun V h => ⟨(at8_box h.box).c3, (at8_box h.box).c0, (at8_box h.box).c1, (at8_box h.box).c2, (at8_box h.box).c4, (at8_box h.box).c6, (at8_box h.box).c7, Lib.hid h⟩)
  rw [← HLn.out]
  obtain ⟨c0, c1, c2, c3, c4, c5, c6, c7⟩ := at8_box HK.out.box
  dsimp only at c0 c1 c2 c3 c4 c5 c6 c7
  go_enter Tryz.func14, Tryz.ntmps14
  go_wp2_with fail
  clear c0 c1 c2 c3 c4 c5 c6 c7
  generalize w.alloc (.cells #[.int .i64 t, .int .i64 s, .int .i64 r, .int .i64 3, .string i, .string n, .string a, .string v] 26) = W0 at HK ⊢
  refine (HCk.out W0 HK.out.ok).mono ?_
  rintro e w1 ⟨rfl, hb⟩
  have HK := Lib.hid (HK.out.step hb)
  clear hb
  go_wp2_with fail
  have S0 := HSt.out _ HK.out.drew
  refine wp_region_held_drew (S := fun V => V.cell? ⟨w.heap.size, 3, none⟩ = some (.int .i64 3) ∧ V.cell? ⟨w.heap.size, 0, none⟩ = some (.int .i64 t) ∧ V.cell? ⟨w.heap.size, 1, none⟩ = some (.int .i64 s) ∧ V.cell? ⟨w.heap.size, 2, none⟩ = some (.int .i64 r) ∧ V.cell? ⟨w.heap.size, 4, none⟩ = some (.string i) ∧ V.cell? ⟨w.heap.size, 6, none⟩ = some (.string a) ∧ V.cell? ⟨w.heap.size, 7, none⟩ = some (.string v) ∧ Hid (BxG w w.heap.size ⟨(t, s, r), 3, i, n, a, v⟩ V)) (by kernel_rfl) (S0) (fun hS => ?_)
  refine wpAnyH_take (i := 0) (oi := { dst := some 11, op := _, type := _, pos := _, after := _, guard := _ }) (v := ?_) rfl (by kernel_rfl) (by kernel_rfl) (by kernel_rfl) (fun _ _ _ h => h) (Or.inl ⟨by rfl, ?_⟩) (by assumption) ?_
  rotate_left
  · intro w hSw
    try dsimp only at hSw
    go_simp
    try with_reducible rfl
  try simp only [Act.put, List.setIfInBounds_toArray, List.set_cons_zero, List.set_cons_succ]
  refine wpAnyH_take (i := 1) (oi := { dst := some 12, op := _, type := _, pos := _, after := _, guard := _ }) (v := ?_) rfl (by kernel_rfl) (by kernel_rfl) (by kernel_rfl) (fun _ _ _ h => h) (Or.inl ⟨by rfl, ?_⟩) (by assumption) ?_
  rotate_left
  · intro w hSw
    try dsimp only at hSw
    go_simp
    try with_reducible rfl
  try simp only [Act.put, List.setIfInBounds_toArray, List.set_cons_zero, List.set_cons_succ]
  refine wpAnyH_take (i := 4) (oi := { dst := some 15, op := _, type := _, pos := _, after := _, guard := _ }) (v := ?_) rfl (by kernel_rfl) (by kernel_rfl) (by kernel_rfl) (fun _ _ _ h => h) (Or.inl ⟨by rfl, ?_⟩) (by assumption) ?_
  rotate_left
  · intro w hSw
    try dsimp only at hSw
    go_simp
    try with_reducible rfl
  try simp only [Act.put, List.setIfInBounds_toArray, List.set_cons_zero, List.set_cons_succ]
  refine wpAnyH_take (i := 5) (oi := { dst := some 16, op := _, type := _, pos := _, after := _, guard := _ }) (v := ?_) rfl (by kernel_rfl) (by kernel_rfl) (by kernel_rfl) (fun _ _ _ h => h) (Or.inl ⟨by rfl, ?_⟩) (by assumption) ?_
  rotate_left
  · intro w hSw
    try dsimp only at hSw
    go_simp
    try with_reducible rfl
  try simp only [Act.put, List.setIfInBounds_toArray, List.set_cons_zero, List.set_cons_succ]
  refine wpAnyH_take (i := 9) (oi := { dst := some 20, op := _, type := _, pos := _, after := _, guard := _ }) (v := ?_) rfl (by kernel_rfl) (by kernel_rfl) (by kernel_rfl) (fun _ _ _ h => h) (Or.inl ⟨by rfl, ?_⟩) (by assumption) ?_
  rotate_left
  · intro w hSw
    try dsimp only at hSw
    go_simp
    try with_reducible rfl
  try simp only [Act.put, List.setIfInBounds_toArray, List.set_cons_zero, List.set_cons_succ]
  refine wpAnyH_take (i := 10) (oi := { dst := some 21, op := _, type := _, pos := _, after := _, guard := _ }) (v := ?_) rfl (by kernel_rfl) (by kernel_rfl) (by kernel_rfl) (fun _ _ _ h => h) (Or.inl ⟨by rfl, ?_⟩) (by assumption) ?_
  rotate_left
  · intro w hSw
    try dsimp only at hSw
    go_simp
    try with_reducible rfl
  try simp only [Act.put, List.setIfInBounds_toArray, List.set_cons_zero, List.set_cons_succ]
  refine wpAnyH_ready (rs := [2]) (by kernel_rfl) (by simp) ?_
  refine AllReadyH.cons rfl (fun K hK => ?_) AllReadyH.nil
  go_simp
  refine (rword_k 3 wd _ (by decide) (by decide) HWd.out).mono ?_
  rintro e v1 ⟨rfl, hb⟩
  have HK1 := Lib.hid (hS.2.2.2.2.2.2.2.out.step hb)
  clear hb
  go_wp2_with fail
  refine hK.out _ _ ?_ (fun hHeld => ?_)
  · exact HSt.out _ HK1.out
  clear hK K
  try simp only [Act.put, List.setIfInBounds_toArray, List.set_cons_zero, List.set_cons_succ]
  refine wpAnyH_take (i := 3) (oi := { dst := some 14, op := _, type := _, pos := _, after := _, guard := _ }) (v := ?_) rfl (by kernel_rfl) (by kernel_rfl) (by kernel_rfl) (fun _ _ _ h => h) (Or.inl ⟨by rfl, ?_⟩) (by assumption) ?_
  rotate_left
  · intro w hSw
    try dsimp only at hSw
    go_simp
    try with_reducible rfl
  try simp only [Act.put, List.setIfInBounds_toArray, List.set_cons_zero, List.set_cons_succ]
  refine wpAnyH_ready (rs := [6]) (by kernel_rfl) (by simp) ?_
  refine AllReadyH.cons rfl (fun K hK => ?_) AllReadyH.nil
  go_simp
  refine (rformat_k t s r fm _ HFm.out).mono ?_
  rintro e v2 ⟨rfl, hb⟩
  have HK2 := Lib.hid (HK1.out.step hb)
  clear hb
  go_wp2_with fail
  refine hK.out _ _ ?_ (fun hHeld => ?_)
  · exact HSt.out _ HK2.out
  clear hK K
  try simp only [Act.put, List.setIfInBounds_toArray, List.set_cons_zero, List.set_cons_succ]
  refine wpAnyH_take (i := 7) (oi := { dst := some 18, op := _, type := _, pos := _, after := _, guard := _ }) (v := ?_) rfl (by kernel_rfl) (by kernel_rfl) (by kernel_rfl) (fun _ _ _ h => h) (Or.inl ⟨by rfl, ?_⟩) (by assumption) ?_
  rotate_left
  · intro w hSw
    try dsimp only at hSw
    go_simp
    try with_reducible rfl
  try simp only [Act.put, List.setIfInBounds_toArray, List.set_cons_zero, List.set_cons_succ]
  refine wpAnyH_take (i := 8) (oi := { dst := some 19, op := _, type := _, pos := _, after := _, guard := _ }) (v := ?_) rfl (by kernel_rfl) (by kernel_rfl) (by kernel_rfl) (fun _ _ _ h => h) (Or.inl ⟨by rfl, ?_⟩) (by assumption) ?_
  rotate_left
  · intro w hSw
    try dsimp only at hSw
    go_simp
    try with_reducible rfl
  try simp only [Act.put, List.setIfInBounds_toArray, List.set_cons_zero, List.set_cons_succ]
  refine wpAnyH_take (i := 11) (oi := { dst := some 22, op := _, type := _, pos := _, after := _, guard := _ }) (v := ?_) rfl (by kernel_rfl) (by kernel_rfl) (by kernel_rfl) (fun _ _ _ h => h) (Or.inl ⟨by rfl, ?_⟩) (by assumption) ?_
  rotate_left
  · intro w hSw
    try dsimp only at hSw
    go_simp
    try with_reducible rfl
  try simp only [Act.put, List.setIfInBounds_toArray, List.set_cons_zero, List.set_cons_succ]
  refine wpAnyH_take (i := 12) (oi := { dst := some 5, op := _, type := _, pos := _, after := _, guard := _ }) (v := ?_) rfl (by kernel_rfl) (by kernel_rfl) (by kernel_rfl) (fun _ _ _ h => h) (Or.inl ⟨by rfl, ?_⟩) (by assumption) ?_
  rotate_left
  · intro w hSw
    try dsimp only at hSw
    go_simp
    try with_reducible rfl
  try simp only [Act.put, List.setIfInBounds_toArray, List.set_cons_zero, List.set_cons_succ]
  refine wpAnyH_done (by kernel_rfl) ?_ _
  clear hHeld S0 hS
  have HK := HK2
  clear HK1 HK2
  have c3 := (at8_box HK.out.box).c3
  have c5 := (at8_box HK.out.box).c5
  dsimp only at c3 c5
  go_wp2_with fail
  refine (rescape_k n x1 _ HZ.out.2.1 HX1.out).mono ?_
  rintro e w5 ⟨rfl, hb⟩
  have HK := Lib.hid (HK.out.step hb)
  clear hb
  go_wp2_with fail
  go_ret2
  exact ⟨by rw [← join4] <;> rfl, HK.out.low⟩
set_option maxHeartbeats 8000000 in
theorem rline4_s (t s r : Int) (i n a v : ByteArray) (w : World) (hz : SmG ⟨(t, s, r), 4, i, n, a, v⟩) (ho : MaxOk w) (hc : chkG ⟨(t, s, r), 4, i, n, a, v⟩ = 0) :
    Calls Tryz.prog 14 #[chV ⟨(t, s, r), 4, i, n, a, v⟩] w fun e w' => e = .returned (.tuple #[.string (lineG ⟨(t, s, r), 4, i, n, a, v⟩), .int .i64 0]) ∧ Below w.heap.size w w' := by
  have HCk := Lib.hid (fun W (h : MaxOk W) => rchkg_s ⟨(t, s, r), 4, i, n, a, v⟩ W hz h)
  rw [hc] at HCk
  rw [chV_is] at HCk ⊢
  have HK := Lib.hid (bxg_new w ⟨(t, s, r), 4, i, n, a, v⟩ ho)
  rw [chB_is] at HK
  obtain ⟨z1, z2, z3, z4⟩ := hz
  dsimp only at z1 z2 z3 z4
  have HZ := Lib.hid (And.intro z1 (And.intro z2 (And.intro z3 z4)))
  obtain ⟨wd, hwd⟩ : ∃ x, wordW 4 = x := ⟨_, rfl⟩
  obtain ⟨fm, hfm⟩ : ∃ x, fmtS (t, s, r) = x := ⟨_, rfl⟩
  have HWd := Lib.hid hwd
  have HFm := Lib.hid hfm
  have y1 := word_size 4
  have y2 := fmt_size (t, s, r)
  rw [hwd] at y1
  rw [hfm] at y2
  obtain ⟨x1, hx1⟩ : ∃ x, escA a = x := ⟨_, rfl⟩
  have HX1 := Lib.hid hx1
  have y3 := esc_size a z3
  rw [hx1] at y3
  obtain ⟨x2, hx2⟩ : ∃ x, escA v = x := ⟨_, rfl⟩
  have HX2 := Lib.hid hx2
  have y4 := esc_size v z4
  rw [hx2] at y4
  have HLn := Lib.hid (show joinB 32 [wd, fm, i, x1, x2] = lineG ⟨(t, s, r), 4, i, n, a, v⟩ from by rw [← hwd, ← hfm, ← hx1, ← hx2]; rfl)
  clear hwd hfm hc z1 z2 z3 z4 ho hx1 hx2
  have hi : i.size ≤ 1000000 := HZ.out.1
  have zq0 : ¬ 9223372036854775807 < wd.size + 1 := by omega
  have zq1 : ¬ 9223372036854775807 < wd.size + 1 + fm.size := by omega
  have zq2 : ¬ 9223372036854775807 < wd.size + 1 + fm.size + 1 := by omega
  have zq3 : ¬ 9223372036854775807 < wd.size + 1 + fm.size + 1 + i.size := by omega
  have zq4 : ¬ 9223372036854775807 < wd.size + 1 + fm.size + 1 + i.size + 1 := by omega
  have zq5 : ¬ 9223372036854775807 < wd.size + 1 + fm.size + 1 + i.size + 1 + x1.size := by omega
  have zq6 : ¬ 9223372036854775807 < wd.size + 1 + fm.size + 1 + i.size + 1 + x1.size + 1 := by omega
  have zq7 : ¬ 9223372036854775807 < wd.size + 1 + fm.size + 1 + i.size + 1 + x1.size + 1 + x2.size := by omega
  clear hi y1 y2 y3 y4
  have HSt := Lib.hid (show ∀ V : World, BxG w w.heap.size ⟨(t, s, r), 4, i, n, a, v⟩ V → (fun V => V.cell? ⟨w.heap.size, 3, none⟩ = some (.int .i64 4) ∧ V.cell? ⟨w.heap.size, 0, none⟩ = some (.int .i64 t) ∧ V.cell? ⟨w.heap.size, 1, none⟩ = some (.int .i64 s) ∧ V.cell? ⟨w.heap.size, 2, none⟩ = some (.int .i64 r) ∧ V.cell? ⟨w.heap.size, 4, none⟩ = some (.string i) ∧ V.cell? ⟨w.heap.size, 6, none⟩ = some (.string a) ∧ V.cell? ⟨w.heap.size, 7, none⟩ = some (.string v) ∧ Hid (BxG w w.heap.size ⟨(t, s, r), 4, i, n, a, v⟩ V)) V from fun V h => ⟨(at8_box h.box).c3, (at8_box h.box).c0, (at8_box h.box).c1, (at8_box h.box).c2, (at8_box h.box).c4, (at8_box h.box).c6, (at8_box h.box).c7, Lib.hid h⟩)
  rw [← HLn.out]
  obtain ⟨c0, c1, c2, c3, c4, c5, c6, c7⟩ := at8_box HK.out.box
  dsimp only at c0 c1 c2 c3 c4 c5 c6 c7
  go_enter Tryz.func14, Tryz.ntmps14
  go_wp2_with fail
  clear c0 c1 c2 c3 c4 c5 c6 c7
  generalize w.alloc (.cells #[.int .i64 t, .int .i64 s, .int .i64 r, .int .i64 4, .string i, .string n, .string a, .string v] 26) = W0 at HK ⊢
  refine (HCk.out W0 HK.out.ok).mono ?_
  rintro e w1 ⟨rfl, hb⟩
  have HK := Lib.hid (HK.out.step hb)
  clear hb
  go_wp2_with fail
  have S0 := HSt.out _ HK.out.drew
  refine wp_region_held_drew (S := fun V => V.cell? ⟨w.heap.size, 3, none⟩ = some (.int .i64 4) ∧ V.cell? ⟨w.heap.size, 0, none⟩ = some (.int .i64 t) ∧ V.cell? ⟨w.heap.size, 1, none⟩ = some (.int .i64 s) ∧ V.cell? ⟨w.heap.size, 2, none⟩ = some (.int .i64 r) ∧ V.cell? ⟨w.heap.size, 4, none⟩ = some (.string i) ∧ V.cell? ⟨w.heap.size, 6, none⟩ = some (.string a) ∧ V.cell? ⟨w.heap.size, 7, none⟩ = some (.string v) ∧ Hid (BxG w w.heap.size ⟨(t, s, r), 4, i, n, a, v⟩ V)) (by kernel_rfl) (S0) (fun hS => ?_)
  refine wpAnyH_take (i := 0) (oi := { dst := some 11, op := _, type := _, pos := _, after := _, guard := _ }) (v := ?_) rfl (by kernel_rfl) (by kernel_rfl) (by kernel_rfl) (fun _ _ _ h => h) (Or.inl ⟨by rfl, ?_⟩) (by assumption) ?_
  rotate_left
  · intro w hSw
    try dsimp only at hSw
    go_simp
    try with_reducible rfl
  try simp only [Act.put, List.setIfInBounds_toArray, List.set_cons_zero, List.set_cons_succ]
  refine wpAnyH_take (i := 1) (oi := { dst := some 12, op := _, type := _, pos := _, after := _, guard := _ }) (v := ?_) rfl (by kernel_rfl) (by kernel_rfl) (by kernel_rfl) (fun _ _ _ h => h) (Or.inl ⟨by rfl, ?_⟩) (by assumption) ?_
  rotate_left
  · intro w hSw
    try dsimp only at hSw
    go_simp
    try with_reducible rfl
  try simp only [Act.put, List.setIfInBounds_toArray, List.set_cons_zero, List.set_cons_succ]
  refine wpAnyH_take (i := 4) (oi := { dst := some 15, op := _, type := _, pos := _, after := _, guard := _ }) (v := ?_) rfl (by kernel_rfl) (by kernel_rfl) (by kernel_rfl) (fun _ _ _ h => h) (Or.inl ⟨by rfl, ?_⟩) (by assumption) ?_
  rotate_left
  · intro w hSw
    try dsimp only at hSw
    go_simp
    try with_reducible rfl
  try simp only [Act.put, List.setIfInBounds_toArray, List.set_cons_zero, List.set_cons_succ]
  refine wpAnyH_take (i := 5) (oi := { dst := some 16, op := _, type := _, pos := _, after := _, guard := _ }) (v := ?_) rfl (by kernel_rfl) (by kernel_rfl) (by kernel_rfl) (fun _ _ _ h => h) (Or.inl ⟨by rfl, ?_⟩) (by assumption) ?_
  rotate_left
  · intro w hSw
    try dsimp only at hSw
    go_simp
    try with_reducible rfl
  try simp only [Act.put, List.setIfInBounds_toArray, List.set_cons_zero, List.set_cons_succ]
  refine wpAnyH_take (i := 9) (oi := { dst := some 20, op := _, type := _, pos := _, after := _, guard := _ }) (v := ?_) rfl (by kernel_rfl) (by kernel_rfl) (by kernel_rfl) (fun _ _ _ h => h) (Or.inl ⟨by rfl, ?_⟩) (by assumption) ?_
  rotate_left
  · intro w hSw
    try dsimp only at hSw
    go_simp
    try with_reducible rfl
  try simp only [Act.put, List.setIfInBounds_toArray, List.set_cons_zero, List.set_cons_succ]
  refine wpAnyH_take (i := 10) (oi := { dst := some 21, op := _, type := _, pos := _, after := _, guard := _ }) (v := ?_) rfl (by kernel_rfl) (by kernel_rfl) (by kernel_rfl) (fun _ _ _ h => h) (Or.inl ⟨by rfl, ?_⟩) (by assumption) ?_
  rotate_left
  · intro w hSw
    try dsimp only at hSw
    go_simp
    try with_reducible rfl
  try simp only [Act.put, List.setIfInBounds_toArray, List.set_cons_zero, List.set_cons_succ]
  refine wpAnyH_ready (rs := [2]) (by kernel_rfl) (by simp) ?_
  refine AllReadyH.cons rfl (fun K hK => ?_) AllReadyH.nil
  go_simp
  refine (rword_k 4 wd _ (by decide) (by decide) HWd.out).mono ?_
  rintro e v1 ⟨rfl, hb⟩
  have HK1 := Lib.hid (hS.2.2.2.2.2.2.2.out.step hb)
  clear hb
  go_wp2_with fail
  refine hK.out _ _ ?_ (fun hHeld => ?_)
  · exact HSt.out _ HK1.out
  clear hK K
  try simp only [Act.put, List.setIfInBounds_toArray, List.set_cons_zero, List.set_cons_succ]
  refine wpAnyH_take (i := 3) (oi := { dst := some 14, op := _, type := _, pos := _, after := _, guard := _ }) (v := ?_) rfl (by kernel_rfl) (by kernel_rfl) (by kernel_rfl) (fun _ _ _ h => h) (Or.inl ⟨by rfl, ?_⟩) (by assumption) ?_
  rotate_left
  · intro w hSw
    try dsimp only at hSw
    go_simp
    try with_reducible rfl
  try simp only [Act.put, List.setIfInBounds_toArray, List.set_cons_zero, List.set_cons_succ]
  refine wpAnyH_ready (rs := [6]) (by kernel_rfl) (by simp) ?_
  refine AllReadyH.cons rfl (fun K hK => ?_) AllReadyH.nil
  go_simp
  refine (rformat_k t s r fm _ HFm.out).mono ?_
  rintro e v2 ⟨rfl, hb⟩
  have HK2 := Lib.hid (HK1.out.step hb)
  clear hb
  go_wp2_with fail
  refine hK.out _ _ ?_ (fun hHeld => ?_)
  · exact HSt.out _ HK2.out
  clear hK K
  try simp only [Act.put, List.setIfInBounds_toArray, List.set_cons_zero, List.set_cons_succ]
  refine wpAnyH_take (i := 7) (oi := { dst := some 18, op := _, type := _, pos := _, after := _, guard := _ }) (v := ?_) rfl (by kernel_rfl) (by kernel_rfl) (by kernel_rfl) (fun _ _ _ h => h) (Or.inl ⟨by rfl, ?_⟩) (by assumption) ?_
  rotate_left
  · intro w hSw
    try dsimp only at hSw
    go_simp
    try with_reducible rfl
  try simp only [Act.put, List.setIfInBounds_toArray, List.set_cons_zero, List.set_cons_succ]
  refine wpAnyH_take (i := 8) (oi := { dst := some 19, op := _, type := _, pos := _, after := _, guard := _ }) (v := ?_) rfl (by kernel_rfl) (by kernel_rfl) (by kernel_rfl) (fun _ _ _ h => h) (Or.inl ⟨by rfl, ?_⟩) (by assumption) ?_
  rotate_left
  · intro w hSw
    try dsimp only at hSw
    go_simp
    try with_reducible rfl
  try simp only [Act.put, List.setIfInBounds_toArray, List.set_cons_zero, List.set_cons_succ]
  refine wpAnyH_take (i := 11) (oi := { dst := some 22, op := _, type := _, pos := _, after := _, guard := _ }) (v := ?_) rfl (by kernel_rfl) (by kernel_rfl) (by kernel_rfl) (fun _ _ _ h => h) (Or.inl ⟨by rfl, ?_⟩) (by assumption) ?_
  rotate_left
  · intro w hSw
    try dsimp only at hSw
    go_simp
    try with_reducible rfl
  try simp only [Act.put, List.setIfInBounds_toArray, List.set_cons_zero, List.set_cons_succ]
  refine wpAnyH_take (i := 12) (oi := { dst := some 5, op := _, type := _, pos := _, after := _, guard := _ }) (v := ?_) rfl (by kernel_rfl) (by kernel_rfl) (by kernel_rfl) (fun _ _ _ h => h) (Or.inl ⟨by rfl, ?_⟩) (by assumption) ?_
  rotate_left
  · intro w hSw
    try dsimp only at hSw
    go_simp
    try with_reducible rfl
  try simp only [Act.put, List.setIfInBounds_toArray, List.set_cons_zero, List.set_cons_succ]
  refine wpAnyH_done (by kernel_rfl) ?_ _
  clear hHeld S0 hS
  have HK := HK2
  clear HK1 HK2
  have c3 := (at8_box HK.out.box).c3
  have c5 := (at8_box HK.out.box).c5
  dsimp only at c3 c5
  clear c5
  go_wp2_with fail
  clear c3
  have S0 := HSt.out _ HK.out.drew
  refine wp_region_held_drew (S := fun V => V.cell? ⟨w.heap.size, 3, none⟩ = some (.int .i64 4) ∧ V.cell? ⟨w.heap.size, 0, none⟩ = some (.int .i64 t) ∧ V.cell? ⟨w.heap.size, 1, none⟩ = some (.int .i64 s) ∧ V.cell? ⟨w.heap.size, 2, none⟩ = some (.int .i64 r) ∧ V.cell? ⟨w.heap.size, 4, none⟩ = some (.string i) ∧ V.cell? ⟨w.heap.size, 6, none⟩ = some (.string a) ∧ V.cell? ⟨w.heap.size, 7, none⟩ = some (.string v) ∧ Hid (BxG w w.heap.size ⟨(t, s, r), 4, i, n, a, v⟩ V)) (by kernel_rfl) (S0) (fun hS => ?_)
  refine wpAnyH_take (i := 0) (oi := { dst := some 37, op := _, type := _, pos := _, after := _, guard := _ }) (v := ?_) rfl (by kernel_rfl) (by kernel_rfl) (by kernel_rfl) (fun _ _ _ h => h) (Or.inl ⟨by rfl, ?_⟩) (by assumption) ?_
  rotate_left
  · intro w hSw
    try dsimp only at hSw
    go_simp
    try with_reducible rfl
  try simp only [Act.put, List.setIfInBounds_toArray, List.set_cons_zero, List.set_cons_succ]
  refine wpAnyH_take (i := 1) (oi := { dst := some 38, op := _, type := _, pos := _, after := _, guard := _ }) (v := ?_) rfl (by kernel_rfl) (by kernel_rfl) (by kernel_rfl) (fun _ _ _ h => h) (Or.inl ⟨by rfl, ?_⟩) (by assumption) ?_
  rotate_left
  · intro w hSw
    try dsimp only at hSw
    go_simp
    try with_reducible rfl
  try simp only [Act.put, List.setIfInBounds_toArray, List.set_cons_zero, List.set_cons_succ]
  refine wpAnyH_take (i := 2) (oi := { dst := some 39, op := _, type := _, pos := _, after := _, guard := _ }) (v := ?_) rfl (by kernel_rfl) (by kernel_rfl) (by kernel_rfl) (fun _ _ _ h => h) (Or.inl ⟨by rfl, ?_⟩) (by assumption) ?_
  rotate_left
  · intro w hSw
    try dsimp only at hSw
    go_simp
    try with_reducible rfl
  try simp only [Act.put, List.setIfInBounds_toArray, List.set_cons_zero, List.set_cons_succ]
  refine wpAnyH_take (i := 3) (oi := { dst := some 40, op := _, type := _, pos := _, after := _, guard := _ }) (v := ?_) rfl (by kernel_rfl) (by kernel_rfl) (by kernel_rfl) (fun _ _ _ h => h) (Or.inl ⟨by rfl, ?_⟩) (by assumption) ?_
  rotate_left
  · intro w hSw
    try dsimp only at hSw
    go_simp
    try with_reducible rfl
  try simp only [Act.put, List.setIfInBounds_toArray, List.set_cons_zero, List.set_cons_succ]
  refine wpAnyH_take (i := 7) (oi := { dst := some 44, op := _, type := _, pos := _, after := _, guard := _ }) (v := ?_) rfl (by kernel_rfl) (by kernel_rfl) (by kernel_rfl) (fun _ _ _ h => h) (Or.inl ⟨by rfl, ?_⟩) (by assumption) ?_
  rotate_left
  · intro w hSw
    try dsimp only at hSw
    go_simp
    try with_reducible rfl
  try simp only [Act.put, List.setIfInBounds_toArray, List.set_cons_zero, List.set_cons_succ]
  refine wpAnyH_take (i := 8) (oi := { dst := some 45, op := _, type := _, pos := _, after := _, guard := _ }) (v := ?_) rfl (by kernel_rfl) (by kernel_rfl) (by kernel_rfl) (fun _ _ _ h => h) (Or.inl ⟨by rfl, ?_⟩) (by assumption) ?_
  rotate_left
  · intro w hSw
    try dsimp only at hSw
    go_simp
    try with_reducible rfl
  try simp only [Act.put, List.setIfInBounds_toArray, List.set_cons_zero, List.set_cons_succ]
  refine wpAnyH_ready (rs := [4]) (by kernel_rfl) (by simp) ?_
  refine AllReadyH.cons rfl (fun K hK => ?_) AllReadyH.nil
  go_simp
  refine (rescape_k a x1 _ HZ.out.2.2.1 HX1.out).mono ?_
  rintro e v5 ⟨rfl, hb⟩
  have HK1 := Lib.hid (hS.2.2.2.2.2.2.2.out.step hb)
  clear hb
  go_wp2_with fail
  refine hK.out _ _ ?_ (fun hHeld => ?_)
  · exact HSt.out _ HK1.out
  clear hK K
  try simp only [Act.put, List.setIfInBounds_toArray, List.set_cons_zero, List.set_cons_succ]
  refine wpAnyH_take (i := 5) (oi := { dst := some 42, op := _, type := _, pos := _, after := _, guard := _ }) (v := ?_) rfl (by kernel_rfl) (by kernel_rfl) (by kernel_rfl) (fun _ _ _ h => h) (Or.inl ⟨by rfl, ?_⟩) (by assumption) ?_
  rotate_left
  · intro w hSw
    try dsimp only at hSw
    go_simp
    try with_reducible rfl
  try simp only [Act.put, List.setIfInBounds_toArray, List.set_cons_zero, List.set_cons_succ]
  refine wpAnyH_take (i := 6) (oi := { dst := some 43, op := _, type := _, pos := _, after := _, guard := _ }) (v := ?_) rfl (by kernel_rfl) (by kernel_rfl) (by kernel_rfl) (fun _ _ _ h => h) (Or.inl ⟨by rfl, ?_⟩) (by assumption) ?_
  rotate_left
  · intro w hSw
    try dsimp only at hSw
    go_simp
    try with_reducible rfl
  try simp only [Act.put, List.setIfInBounds_toArray, List.set_cons_zero, List.set_cons_succ]
  refine wpAnyH_ready (rs := [9]) (by kernel_rfl) (by simp) ?_
  refine AllReadyH.cons rfl (fun K hK => ?_) AllReadyH.nil
  go_simp
  refine (rescape_k v x2 _ HZ.out.2.2.2 HX2.out).mono ?_
  rintro e v6 ⟨rfl, hb⟩
  have HK2 := Lib.hid (HK1.out.step hb)
  clear hb
  go_wp2_with fail
  refine hK.out _ _ ?_ (fun hHeld => ?_)
  · exact HSt.out _ HK2.out
  clear hK K
  try simp only [Act.put, List.setIfInBounds_toArray, List.set_cons_zero, List.set_cons_succ]
  refine wpAnyH_take (i := 10) (oi := { dst := some 47, op := _, type := _, pos := _, after := _, guard := _ }) (v := ?_) rfl (by kernel_rfl) (by kernel_rfl) (by kernel_rfl) (fun _ _ _ h => h) (Or.inl ⟨by rfl, ?_⟩) (by assumption) ?_
  rotate_left
  · intro w hSw
    try dsimp only at hSw
    go_simp
    try with_reducible rfl
  try simp only [Act.put, List.setIfInBounds_toArray, List.set_cons_zero, List.set_cons_succ]
  refine wpAnyH_take (i := 11) (oi := { dst := some 5, op := _, type := _, pos := _, after := _, guard := _ }) (v := ?_) rfl (by kernel_rfl) (by kernel_rfl) (by kernel_rfl) (fun _ _ _ h => h) (Or.inl ⟨by rfl, ?_⟩) (by assumption) ?_
  rotate_left
  · intro w hSw
    try dsimp only at hSw
    go_simp
    try with_reducible rfl
  try simp only [Act.put, List.setIfInBounds_toArray, List.set_cons_zero, List.set_cons_succ]
  refine wpAnyH_done (by kernel_rfl) ?_ _
  clear hHeld S0 hS HK HK1
  go_wp2_with fail
  go_ret2
  exact ⟨by rw [← join5] <;> rfl, HK2.out.low⟩
set_option maxHeartbeats 8000000 in
theorem rline5_s (t s r : Int) (i n a v : ByteArray) (w : World) (hz : SmG ⟨(t, s, r), 5, i, n, a, v⟩) (ho : MaxOk w) (hc : chkG ⟨(t, s, r), 5, i, n, a, v⟩ = 0) :
    Calls Tryz.prog 14 #[chV ⟨(t, s, r), 5, i, n, a, v⟩] w fun e w' => e = .returned (.tuple #[.string (lineG ⟨(t, s, r), 5, i, n, a, v⟩), .int .i64 0]) ∧ Below w.heap.size w w' := by
  have HCk := Lib.hid (fun W (h : MaxOk W) => rchkg_s ⟨(t, s, r), 5, i, n, a, v⟩ W hz h)
  rw [hc] at HCk
  rw [chV_is] at HCk ⊢
  have HK := Lib.hid (bxg_new w ⟨(t, s, r), 5, i, n, a, v⟩ ho)
  rw [chB_is] at HK
  obtain ⟨z1, z2, z3, z4⟩ := hz
  dsimp only at z1 z2 z3 z4
  have HZ := Lib.hid (And.intro z1 (And.intro z2 (And.intro z3 z4)))
  obtain ⟨wd, hwd⟩ : ∃ x, wordW 5 = x := ⟨_, rfl⟩
  obtain ⟨fm, hfm⟩ : ∃ x, fmtS (t, s, r) = x := ⟨_, rfl⟩
  have HWd := Lib.hid hwd
  have HFm := Lib.hid hfm
  have y1 := word_size 5
  have y2 := fmt_size (t, s, r)
  rw [hwd] at y1
  rw [hfm] at y2
  obtain ⟨x1, hx1⟩ : ∃ x, escA a = x := ⟨_, rfl⟩
  have HX1 := Lib.hid hx1
  have y3 := esc_size a z3
  rw [hx1] at y3
  obtain ⟨x2, hx2⟩ : ∃ x, escA v = x := ⟨_, rfl⟩
  have HX2 := Lib.hid hx2
  have y4 := esc_size v z4
  rw [hx2] at y4
  have HLn := Lib.hid (show joinB 32 [wd, fm, i, x1, x2] = lineG ⟨(t, s, r), 5, i, n, a, v⟩ from by rw [← hwd, ← hfm, ← hx1, ← hx2]; rfl)
  clear hwd hfm hc z1 z2 z3 z4 ho hx1 hx2
  have hi : i.size ≤ 1000000 := HZ.out.1
  have zq0 : ¬ 9223372036854775807 < wd.size + 1 := by omega
  have zq1 : ¬ 9223372036854775807 < wd.size + 1 + fm.size := by omega
  have zq2 : ¬ 9223372036854775807 < wd.size + 1 + fm.size + 1 := by omega
  have zq3 : ¬ 9223372036854775807 < wd.size + 1 + fm.size + 1 + i.size := by omega
  have zq4 : ¬ 9223372036854775807 < wd.size + 1 + fm.size + 1 + i.size + 1 := by omega
  have zq5 : ¬ 9223372036854775807 < wd.size + 1 + fm.size + 1 + i.size + 1 + x1.size := by omega
  have zq6 : ¬ 9223372036854775807 < wd.size + 1 + fm.size + 1 + i.size + 1 + x1.size + 1 := by omega
  have zq7 : ¬ 9223372036854775807 < wd.size + 1 + fm.size + 1 + i.size + 1 + x1.size + 1 + x2.size := by omega
  clear hi y1 y2 y3 y4
  have HSt := Lib.hid (show ∀ V : World, BxG w w.heap.size ⟨(t, s, r), 5, i, n, a, v⟩ V → (fun V => V.cell? ⟨w.heap.size, 3, none⟩ = some (.int .i64 5) ∧ V.cell? ⟨w.heap.size, 0, none⟩ = some (.int .i64 t) ∧ V.cell? ⟨w.heap.size, 1, none⟩ = some (.int .i64 s) ∧ V.cell? ⟨w.heap.size, 2, none⟩ = some (.int .i64 r) ∧ V.cell? ⟨w.heap.size, 4, none⟩ = some (.string i) ∧ V.cell? ⟨w.heap.size, 6, none⟩ = some (.string a) ∧ V.cell? ⟨w.heap.size, 7, none⟩ = some (.string v) ∧ Hid (BxG w w.heap.size ⟨(t, s, r), 5, i, n, a, v⟩ V)) V from fun V h => ⟨(at8_box h.box).c3, (at8_box h.box).c0, (at8_box h.box).c1, (at8_box h.box).c2, (at8_box h.box).c4, (at8_box h.box).c6, (at8_box h.box).c7, Lib.hid h⟩)
  rw [← HLn.out]
  obtain ⟨c0, c1, c2, c3, c4, c5, c6, c7⟩ := at8_box HK.out.box
  dsimp only at c0 c1 c2 c3 c4 c5 c6 c7
  go_enter Tryz.func14, Tryz.ntmps14
  go_wp2_with fail
  clear c0 c1 c2 c3 c4 c5 c6 c7
  generalize w.alloc (.cells #[.int .i64 t, .int .i64 s, .int .i64 r, .int .i64 5, .string i, .string n, .string a, .string v] 26) = W0 at HK ⊢
  refine (HCk.out W0 HK.out.ok).mono ?_
  rintro e w1 ⟨rfl, hb⟩
  have HK := Lib.hid (HK.out.step hb)
  clear hb
  go_wp2_with fail
  have S0 := HSt.out _ HK.out.drew
  refine wp_region_held_drew (S := fun V => V.cell? ⟨w.heap.size, 3, none⟩ = some (.int .i64 5) ∧ V.cell? ⟨w.heap.size, 0, none⟩ = some (.int .i64 t) ∧ V.cell? ⟨w.heap.size, 1, none⟩ = some (.int .i64 s) ∧ V.cell? ⟨w.heap.size, 2, none⟩ = some (.int .i64 r) ∧ V.cell? ⟨w.heap.size, 4, none⟩ = some (.string i) ∧ V.cell? ⟨w.heap.size, 6, none⟩ = some (.string a) ∧ V.cell? ⟨w.heap.size, 7, none⟩ = some (.string v) ∧ Hid (BxG w w.heap.size ⟨(t, s, r), 5, i, n, a, v⟩ V)) (by kernel_rfl) (S0) (fun hS => ?_)
  refine wpAnyH_take (i := 0) (oi := { dst := some 11, op := _, type := _, pos := _, after := _, guard := _ }) (v := ?_) rfl (by kernel_rfl) (by kernel_rfl) (by kernel_rfl) (fun _ _ _ h => h) (Or.inl ⟨by rfl, ?_⟩) (by assumption) ?_
  rotate_left
  · intro w hSw
    try dsimp only at hSw
    go_simp
    try with_reducible rfl
  try simp only [Act.put, List.setIfInBounds_toArray, List.set_cons_zero, List.set_cons_succ]
  refine wpAnyH_take (i := 1) (oi := { dst := some 12, op := _, type := _, pos := _, after := _, guard := _ }) (v := ?_) rfl (by kernel_rfl) (by kernel_rfl) (by kernel_rfl) (fun _ _ _ h => h) (Or.inl ⟨by rfl, ?_⟩) (by assumption) ?_
  rotate_left
  · intro w hSw
    try dsimp only at hSw
    go_simp
    try with_reducible rfl
  try simp only [Act.put, List.setIfInBounds_toArray, List.set_cons_zero, List.set_cons_succ]
  refine wpAnyH_take (i := 4) (oi := { dst := some 15, op := _, type := _, pos := _, after := _, guard := _ }) (v := ?_) rfl (by kernel_rfl) (by kernel_rfl) (by kernel_rfl) (fun _ _ _ h => h) (Or.inl ⟨by rfl, ?_⟩) (by assumption) ?_
  rotate_left
  · intro w hSw
    try dsimp only at hSw
    go_simp
    try with_reducible rfl
  try simp only [Act.put, List.setIfInBounds_toArray, List.set_cons_zero, List.set_cons_succ]
  refine wpAnyH_take (i := 5) (oi := { dst := some 16, op := _, type := _, pos := _, after := _, guard := _ }) (v := ?_) rfl (by kernel_rfl) (by kernel_rfl) (by kernel_rfl) (fun _ _ _ h => h) (Or.inl ⟨by rfl, ?_⟩) (by assumption) ?_
  rotate_left
  · intro w hSw
    try dsimp only at hSw
    go_simp
    try with_reducible rfl
  try simp only [Act.put, List.setIfInBounds_toArray, List.set_cons_zero, List.set_cons_succ]
  refine wpAnyH_take (i := 9) (oi := { dst := some 20, op := _, type := _, pos := _, after := _, guard := _ }) (v := ?_) rfl (by kernel_rfl) (by kernel_rfl) (by kernel_rfl) (fun _ _ _ h => h) (Or.inl ⟨by rfl, ?_⟩) (by assumption) ?_
  rotate_left
  · intro w hSw
    try dsimp only at hSw
    go_simp
    try with_reducible rfl
  try simp only [Act.put, List.setIfInBounds_toArray, List.set_cons_zero, List.set_cons_succ]
  refine wpAnyH_take (i := 10) (oi := { dst := some 21, op := _, type := _, pos := _, after := _, guard := _ }) (v := ?_) rfl (by kernel_rfl) (by kernel_rfl) (by kernel_rfl) (fun _ _ _ h => h) (Or.inl ⟨by rfl, ?_⟩) (by assumption) ?_
  rotate_left
  · intro w hSw
    try dsimp only at hSw
    go_simp
    try with_reducible rfl
  try simp only [Act.put, List.setIfInBounds_toArray, List.set_cons_zero, List.set_cons_succ]
  refine wpAnyH_ready (rs := [2]) (by kernel_rfl) (by simp) ?_
  refine AllReadyH.cons rfl (fun K hK => ?_) AllReadyH.nil
  go_simp
  refine (rword_k 5 wd _ (by decide) (by decide) HWd.out).mono ?_
  rintro e v1 ⟨rfl, hb⟩
  have HK1 := Lib.hid (hS.2.2.2.2.2.2.2.out.step hb)
  clear hb
  go_wp2_with fail
  refine hK.out _ _ ?_ (fun hHeld => ?_)
  · exact HSt.out _ HK1.out
  clear hK K
  try simp only [Act.put, List.setIfInBounds_toArray, List.set_cons_zero, List.set_cons_succ]
  refine wpAnyH_take (i := 3) (oi := { dst := some 14, op := _, type := _, pos := _, after := _, guard := _ }) (v := ?_) rfl (by kernel_rfl) (by kernel_rfl) (by kernel_rfl) (fun _ _ _ h => h) (Or.inl ⟨by rfl, ?_⟩) (by assumption) ?_
  rotate_left
  · intro w hSw
    try dsimp only at hSw
    go_simp
    try with_reducible rfl
  try simp only [Act.put, List.setIfInBounds_toArray, List.set_cons_zero, List.set_cons_succ]
  refine wpAnyH_ready (rs := [6]) (by kernel_rfl) (by simp) ?_
  refine AllReadyH.cons rfl (fun K hK => ?_) AllReadyH.nil
  go_simp
  refine (rformat_k t s r fm _ HFm.out).mono ?_
  rintro e v2 ⟨rfl, hb⟩
  have HK2 := Lib.hid (HK1.out.step hb)
  clear hb
  go_wp2_with fail
  refine hK.out _ _ ?_ (fun hHeld => ?_)
  · exact HSt.out _ HK2.out
  clear hK K
  try simp only [Act.put, List.setIfInBounds_toArray, List.set_cons_zero, List.set_cons_succ]
  refine wpAnyH_take (i := 7) (oi := { dst := some 18, op := _, type := _, pos := _, after := _, guard := _ }) (v := ?_) rfl (by kernel_rfl) (by kernel_rfl) (by kernel_rfl) (fun _ _ _ h => h) (Or.inl ⟨by rfl, ?_⟩) (by assumption) ?_
  rotate_left
  · intro w hSw
    try dsimp only at hSw
    go_simp
    try with_reducible rfl
  try simp only [Act.put, List.setIfInBounds_toArray, List.set_cons_zero, List.set_cons_succ]
  refine wpAnyH_take (i := 8) (oi := { dst := some 19, op := _, type := _, pos := _, after := _, guard := _ }) (v := ?_) rfl (by kernel_rfl) (by kernel_rfl) (by kernel_rfl) (fun _ _ _ h => h) (Or.inl ⟨by rfl, ?_⟩) (by assumption) ?_
  rotate_left
  · intro w hSw
    try dsimp only at hSw
    go_simp
    try with_reducible rfl
  try simp only [Act.put, List.setIfInBounds_toArray, List.set_cons_zero, List.set_cons_succ]
  refine wpAnyH_take (i := 11) (oi := { dst := some 22, op := _, type := _, pos := _, after := _, guard := _ }) (v := ?_) rfl (by kernel_rfl) (by kernel_rfl) (by kernel_rfl) (fun _ _ _ h => h) (Or.inl ⟨by rfl, ?_⟩) (by assumption) ?_
  rotate_left
  · intro w hSw
    try dsimp only at hSw
    go_simp
    try with_reducible rfl
  try simp only [Act.put, List.setIfInBounds_toArray, List.set_cons_zero, List.set_cons_succ]
  refine wpAnyH_take (i := 12) (oi := { dst := some 5, op := _, type := _, pos := _, after := _, guard := _ }) (v := ?_) rfl (by kernel_rfl) (by kernel_rfl) (by kernel_rfl) (fun _ _ _ h => h) (Or.inl ⟨by rfl, ?_⟩) (by assumption) ?_
  rotate_left
  · intro w hSw
    try dsimp only at hSw
    go_simp
    try with_reducible rfl
  try simp only [Act.put, List.setIfInBounds_toArray, List.set_cons_zero, List.set_cons_succ]
  refine wpAnyH_done (by kernel_rfl) ?_ _
  clear hHeld S0 hS
  have HK := HK2
  clear HK1 HK2
  have c3 := (at8_box HK.out.box).c3
  have c5 := (at8_box HK.out.box).c5
  dsimp only at c3 c5
  clear c5
  go_wp2_with fail
  clear c3
  have S0 := HSt.out _ HK.out.drew
  refine wp_region_held_drew (S := fun V => V.cell? ⟨w.heap.size, 3, none⟩ = some (.int .i64 5) ∧ V.cell? ⟨w.heap.size, 0, none⟩ = some (.int .i64 t) ∧ V.cell? ⟨w.heap.size, 1, none⟩ = some (.int .i64 s) ∧ V.cell? ⟨w.heap.size, 2, none⟩ = some (.int .i64 r) ∧ V.cell? ⟨w.heap.size, 4, none⟩ = some (.string i) ∧ V.cell? ⟨w.heap.size, 6, none⟩ = some (.string a) ∧ V.cell? ⟨w.heap.size, 7, none⟩ = some (.string v) ∧ Hid (BxG w w.heap.size ⟨(t, s, r), 5, i, n, a, v⟩ V)) (by kernel_rfl) (S0) (fun hS => ?_)
  refine wpAnyH_take (i := 0) (oi := { dst := some 37, op := _, type := _, pos := _, after := _, guard := _ }) (v := ?_) rfl (by kernel_rfl) (by kernel_rfl) (by kernel_rfl) (fun _ _ _ h => h) (Or.inl ⟨by rfl, ?_⟩) (by assumption) ?_
  rotate_left
  · intro w hSw
    try dsimp only at hSw
    go_simp
    try with_reducible rfl
  try simp only [Act.put, List.setIfInBounds_toArray, List.set_cons_zero, List.set_cons_succ]
  refine wpAnyH_take (i := 1) (oi := { dst := some 38, op := _, type := _, pos := _, after := _, guard := _ }) (v := ?_) rfl (by kernel_rfl) (by kernel_rfl) (by kernel_rfl) (fun _ _ _ h => h) (Or.inl ⟨by rfl, ?_⟩) (by assumption) ?_
  rotate_left
  · intro w hSw
    try dsimp only at hSw
    go_simp
    try with_reducible rfl
  try simp only [Act.put, List.setIfInBounds_toArray, List.set_cons_zero, List.set_cons_succ]
  refine wpAnyH_take (i := 2) (oi := { dst := some 39, op := _, type := _, pos := _, after := _, guard := _ }) (v := ?_) rfl (by kernel_rfl) (by kernel_rfl) (by kernel_rfl) (fun _ _ _ h => h) (Or.inl ⟨by rfl, ?_⟩) (by assumption) ?_
  rotate_left
  · intro w hSw
    try dsimp only at hSw
    go_simp
    try with_reducible rfl
  try simp only [Act.put, List.setIfInBounds_toArray, List.set_cons_zero, List.set_cons_succ]
  refine wpAnyH_take (i := 3) (oi := { dst := some 40, op := _, type := _, pos := _, after := _, guard := _ }) (v := ?_) rfl (by kernel_rfl) (by kernel_rfl) (by kernel_rfl) (fun _ _ _ h => h) (Or.inl ⟨by rfl, ?_⟩) (by assumption) ?_
  rotate_left
  · intro w hSw
    try dsimp only at hSw
    go_simp
    try with_reducible rfl
  try simp only [Act.put, List.setIfInBounds_toArray, List.set_cons_zero, List.set_cons_succ]
  refine wpAnyH_take (i := 7) (oi := { dst := some 44, op := _, type := _, pos := _, after := _, guard := _ }) (v := ?_) rfl (by kernel_rfl) (by kernel_rfl) (by kernel_rfl) (fun _ _ _ h => h) (Or.inl ⟨by rfl, ?_⟩) (by assumption) ?_
  rotate_left
  · intro w hSw
    try dsimp only at hSw
    go_simp
    try with_reducible rfl
  try simp only [Act.put, List.setIfInBounds_toArray, List.set_cons_zero, List.set_cons_succ]
  refine wpAnyH_take (i := 8) (oi := { dst := some 45, op := _, type := _, pos := _, after := _, guard := _ }) (v := ?_) rfl (by kernel_rfl) (by kernel_rfl) (by kernel_rfl) (fun _ _ _ h => h) (Or.inl ⟨by rfl, ?_⟩) (by assumption) ?_
  rotate_left
  · intro w hSw
    try dsimp only at hSw
    go_simp
    try with_reducible rfl
  try simp only [Act.put, List.setIfInBounds_toArray, List.set_cons_zero, List.set_cons_succ]
  refine wpAnyH_ready (rs := [4]) (by kernel_rfl) (by simp) ?_
  refine AllReadyH.cons rfl (fun K hK => ?_) AllReadyH.nil
  go_simp
  refine (rescape_k a x1 _ HZ.out.2.2.1 HX1.out).mono ?_
  rintro e v5 ⟨rfl, hb⟩
  have HK1 := Lib.hid (hS.2.2.2.2.2.2.2.out.step hb)
  clear hb
  go_wp2_with fail
  refine hK.out _ _ ?_ (fun hHeld => ?_)
  · exact HSt.out _ HK1.out
  clear hK K
  try simp only [Act.put, List.setIfInBounds_toArray, List.set_cons_zero, List.set_cons_succ]
  refine wpAnyH_take (i := 5) (oi := { dst := some 42, op := _, type := _, pos := _, after := _, guard := _ }) (v := ?_) rfl (by kernel_rfl) (by kernel_rfl) (by kernel_rfl) (fun _ _ _ h => h) (Or.inl ⟨by rfl, ?_⟩) (by assumption) ?_
  rotate_left
  · intro w hSw
    try dsimp only at hSw
    go_simp
    try with_reducible rfl
  try simp only [Act.put, List.setIfInBounds_toArray, List.set_cons_zero, List.set_cons_succ]
  refine wpAnyH_take (i := 6) (oi := { dst := some 43, op := _, type := _, pos := _, after := _, guard := _ }) (v := ?_) rfl (by kernel_rfl) (by kernel_rfl) (by kernel_rfl) (fun _ _ _ h => h) (Or.inl ⟨by rfl, ?_⟩) (by assumption) ?_
  rotate_left
  · intro w hSw
    try dsimp only at hSw
    go_simp
    try with_reducible rfl
  try simp only [Act.put, List.setIfInBounds_toArray, List.set_cons_zero, List.set_cons_succ]
  refine wpAnyH_ready (rs := [9]) (by kernel_rfl) (by simp) ?_
  refine AllReadyH.cons rfl (fun K hK => ?_) AllReadyH.nil
  go_simp
  refine (rescape_k v x2 _ HZ.out.2.2.2 HX2.out).mono ?_
  rintro e v6 ⟨rfl, hb⟩
  have HK2 := Lib.hid (HK1.out.step hb)
  clear hb
  go_wp2_with fail
  refine hK.out _ _ ?_ (fun hHeld => ?_)
  · exact HSt.out _ HK2.out
  clear hK K
  try simp only [Act.put, List.setIfInBounds_toArray, List.set_cons_zero, List.set_cons_succ]
  refine wpAnyH_take (i := 10) (oi := { dst := some 47, op := _, type := _, pos := _, after := _, guard := _ }) (v := ?_) rfl (by kernel_rfl) (by kernel_rfl) (by kernel_rfl) (fun _ _ _ h => h) (Or.inl ⟨by rfl, ?_⟩) (by assumption) ?_
  rotate_left
  · intro w hSw
    try dsimp only at hSw
    go_simp
    try with_reducible rfl
  try simp only [Act.put, List.setIfInBounds_toArray, List.set_cons_zero, List.set_cons_succ]
  refine wpAnyH_take (i := 11) (oi := { dst := some 5, op := _, type := _, pos := _, after := _, guard := _ }) (v := ?_) rfl (by kernel_rfl) (by kernel_rfl) (by kernel_rfl) (fun _ _ _ h => h) (Or.inl ⟨by rfl, ?_⟩) (by assumption) ?_
  rotate_left
  · intro w hSw
    try dsimp only at hSw
    go_simp
    try with_reducible rfl
  try simp only [Act.put, List.setIfInBounds_toArray, List.set_cons_zero, List.set_cons_succ]
  refine wpAnyH_done (by kernel_rfl) ?_ _
  clear hHeld S0 hS HK HK1
  go_wp2_with fail
  go_ret2
  exact ⟨by rw [← join5] <;> rfl, HK2.out.low⟩
set_option maxHeartbeats 4000000 in
theorem rline_s (g : Chg) (w : World) (hz : SmG g) (ho : MaxOk w) :
    Calls Tryz.prog 14 #[chV g] w fun e w' => e = .returned (.tuple #[.string (lnV g), .int .i64 (chkG g)]) ∧ Below w.heap.size w w' := by
  by_cases h0 : chkG g = 0
  · have hk := chk_ok h0
    have e1 : lnV g = lineG g := if_pos h0
    rw [e1, h0]
    obtain ⟨⟨t, s, r⟩, o, i, n, a, v⟩ := g
    have h1 := hk.lo
    have h5 := hk.hi
    dsimp only at h1 h5
    rcases (show o = 1 ∨ o = 2 ∨ o = 3 ∨ o = 4 ∨ o = 5 by omega) with rfl | rfl | rfl | rfl | rfl
    · exact rline1_s t s r i n a v w hz ho h0
    · exact rline2_s t s r i n a v w hz ho h0
    · exact rline3_s t s r i n a v w hz ho h0
    · exact rline4_s t s r i n a v w hz ho h0
    · exact rline5_s t s r i n a v w hz ho h0
  · have e1 : lnV g = nilS := if_neg h0
    rw [e1]
    have HCk := Lib.hid (fun W (h : MaxOk W) => rchkg_s g W hz h)
    have HK := Lib.hid (bxg_new w g ho)
    obtain ⟨c, hc⟩ : ∃ x, chkG g = x := ⟨_, rfl⟩
    rw [hc] at HCk h0 ⊢
    have HH := Lib.hid h0
    have d0 : (c != 0) = true := by simpa using h0
    clear h0 hc
    obtain ⟨⟨t, s, r⟩, o, i, n, a, v⟩ := g
    rw [chV_is] at HCk ⊢
    rw [chB_is] at HK
    obtain ⟨c0, c1, c2, c3, c4, c5, c6, c7⟩ := at8_box HK.out.box
    dsimp only at c0 c1 c2 c3 c4 c5 c6 c7
    go_enter Tryz.func14, Tryz.ntmps14
    go_wp2_with fail
    clear c0 c1 c2 c3 c4 c5 c6 c7
    generalize w.alloc (.cells #[.int .i64 t, .int .i64 s, .int .i64 r, .int .i64 o, .string i, .string n, .string a, .string v] 26) = W0 at HK ⊢
    refine (HCk.out W0 HK.out.ok).mono ?_
    rintro e w1 ⟨rfl, hb⟩
    have HK := Lib.hid (HK.out.step hb)
    clear hb
    go_wp2_with fail
    go_ret2
    exact ⟨rfl, HK.out.low⟩
end Go.Proofs.YtbkignlbcneddaaGreatDoor
end
