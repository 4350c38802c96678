/-
  Texts of the schema layer and of those beneath it, joined: ChgK7. Conditions stand at each contract.
-/
import Derived.Test.YtbkignlbcneddaaGreatDoorX02
import Derived.Test.YtbkignlbcneddaaGreatDoorX03
import Derived.Test.YtbkignlbcneddaaGreatDoorX04
import Derived.Test.YtbkignlbcneddaaGreatDoorX05
import Derived.Test.YtbkignlbcneddaaGreatDoorX10
import Derived.Test.YtbkignlbcneddaaGreatDoorX16
set_option linter.unusedVariables false
set_option linter.unusedSimpArgs false
set_option linter.unnecessarySimpa false

section
/-
  Contract of change's line: the line of a record without error. Condition: strings of at most 1000000 bytes.
-/
set_option maxRecDepth 100000
namespace Go.Proofs.YtbkignlbcneddaaGreatDoor
open Go.RowKit Go.PlainAid
open Csn (Cn cnV KbC kbc_new box_below box_lt parEC parVC vldC fmtS TzOk)
/-- what the variables of the program hold -/
structure COk (w : World) : Prop where
  mx : MaxOk w
  tz : TzOk w
  op : OpOk w
theorem COk.step {w W : World} (h : COk w) (hb : Below w.heap.size w W) : COk W := ⟨h.mx.far hb, h.tz.below hb, h.op.below hb⟩
/-- what is kept: a box with a record, how far the world has gone, the variables -/
structure BxC (w : World) (b : Nat) (g : Chg) (W : World) : Prop where
  low : Below w.heap.size w W
  box : KbC W b (chB g)
  ok : COk W
theorem BxC.step {w W X : World} {b : Nat} {g : Chg} (h : BxC w b g W) (hb : Below W.heap.size W X) : BxC w b g X :=
  ⟨h.low.trans (hb.mono h.low.size), Csn.KbC.step h.box hb, h.ok.step hb⟩
theorem BxC.drew {w W : World} {b : Nat} {g : Chg} (h : BxC w b g W) : BxC w b g W.drew := h.step (Below.refl _ _).drew
theorem bxc_new (w : World) (g : Chg) (h : COk w) : BxC w w.heap.size g (w.alloc (chB g)) := ⟨box_below w _, kbc_new w _, h.step (box_below w _)⟩
theorem BxC.bx {w W : World} {b : Nat} {g : Chg} (h : BxC w b g W) : BxG w b g W := ⟨h.low, h.box, h.ok.mx⟩
theorem COk.keep {w V X : World} (h : COk V) (h0 : COk w) {B : Nat} (hw : w.heap.size ≤ B) (hb : Below B V X) : COk X :=
  ⟨h.mx.below hb (Nat.lt_of_lt_of_le h0.mx.lt hw),
   by
    have hlt : 6 < w.heap.size := World.block_lt_of_cell? w _ h0.tz
    unfold TzOk
    rw [hb.cell (p := ⟨6, 15, none⟩) (Nat.lt_of_lt_of_le hlt hw)]
    exact h.tz,
   fun k hk => by rw [hb.cell (p := ⟨0, k, none⟩) (Nat.lt_of_lt_of_le h0.op.lt hw)]; exact h.op k hk⟩
theorem BxC.far {w V X : World} {b : Nat} {g : Chg} (h : BxC w b g V) (h0 : COk w) {B : Nat} (hw : w.heap.size ≤ B) (hB : b < B) (hb : Below B V X) : BxC w b g X :=
  ⟨h.low.trans (hb.mono hw), Csn.KbC.keep h.box hb hB, h.ok.keep h0 hw hb⟩
theorem kbc_grown {W X : World} {b : Nat} {o : Obj} {row : Option Nat} (h : KbC W b o) (hg : W.grownBy X row) (hne : some b ≠ row) : KbC X b o := (hg.block b (Csn.KbC.big h) hne).trans h
theorem own3 (w : World) (x y z : ByteArray) : (w.alloc (.cells #[.string x, .string y, .string z] 9)).ownsRow w.heap.size 9 1 (.slice (some ⟨w.heap.size, 0, none⟩) 3 3) 3 (scells [x, y, z]) :=
  ⟨rfl, .inr ⟨w.heap.size, 3, _, rfl, Nat.le_refl _, heap_alloc_new w _, Nat.le_refl _, by unfold maxLen; omega, rfl, rfl⟩⟩
/-- 'l = append(l, s)' where l is the call's own, and what it leaves as it is -/
theorem push_strG {ops : Array Oper} {rest : List Oper} {o : Oper} {a : Act} {Q : Exit → Act → World → Prop} (wr : World) {base : Nat} {v : Value} {n : Nat} {xs : List Value} (hown : wr.ownsRow base 9 1 v n xs) (s x : Operand)
    (p : ByteArray) (hgd : o.guard = none)
    (ho : o.op = .call { callee := .builtin .append, args := #[s, x], argTypes := #[58, 58] })
    (hs : a.eval s = v) (hx : a.eval x = .slice (some ⟨wr.heap.size, 0, none⟩) 1 1) (hn : n + 1 ≤ 1000000000) (hbase : base ≤ wr.heap.size)
    (h : ∀ v' w', w'.ownsRow base 9 1 v' (n + 1) (xs ++ [.string p]) → (wr.alloc (.cells #[.string p] 9)).grownBy w' v.ownBlock → Below base wr w' → wpList Tryz.prog ops Q rest (a.put o.dst v') w') :
    wpList Tryz.prog ops Q (o :: rest) a (wr.alloc (.cells #[.string p] 9)) := by
  obtain ⟨i0, hi, hz0, hz1, hz2⟩ := info_parts info_string
  refine wpList_append_own _ hgd s x 58 ho base 9 i0 (.string ⟨#[]⟩) 1 16 Tryz.underlying58 hi hz0 hz1 hz2 rfl (by decide) v n xs hs (hown.alloc _) ⟨wr.heap.size, 0, none⟩ 1 1 [.string p] hx rfl
    (cell_one_new _ _ _) (by intro u hu; simp at hu; subst hu; rfl) (by unfold maxLen; omega) (by omega) (by simp; omega) ?_
  intro v' w' h1 h2 _
  exact h v' w' h1 h2 (((Below.refl base wr).alloc hbase _).grown h2 (by simp; omega) (fun k hk => ((hown.alloc (.cells #[.string p] 9)).lt k hk).1))
theorem esc_size (s : ByteArray) (h : s.size ≤ 1000000) : (escA s).size ≤ 3000000 := by
  unfold escA
  rw [Lib.size_mk]
  have := escL_length s.data.toList
  have e : s.data.toList.length = s.size := (Lib.size_eq s).symm
  omega
theorem escape_k (s r : ByteArray) (w : World) (hs : s.size ≤ 1000000) (hr : escA s = r) :
    Calls Tryz.prog 89 #[.string s] w fun e w' => e = .returned (.string r) ∧ Below w.heap.size w w' := by subst hr; exact escape_any s w (by omega)
theorem fmt_size (c : Cn) : (fmtS c).size ≤ 22 := by
  unfold fmtS
  split
  · rw [Lib.size_mk, Csn.fmtL_len]; omega
  · show (0 : Nat) ≤ 22; omega
theorem word_size (o : Int) : (wordW o).size ≤ 6 := by unfold wordW; (repeat' split) <;> decide
set_option maxHeartbeats 8000000 in
theorem line1_s (t s r : Int) (i n a v : ByteArray) (w : World) (hz : SmG ⟨(t, s, r), 1, i, n, a, v⟩) (ho : COk w) :
    Calls Tryz.prog 42 #[chV ⟨(t, s, r), 1, i, n, a, v⟩] w fun e w' => e = .returned (.string (lineG ⟨(t, s, r), 1, i, n, a, v⟩)) ∧ Below w.heap.size w w' := by
  rw [chV_is]
  have HK := Lib.hid (bxc_new w ⟨(t, s, r), 1, i, n, a, v⟩ ho)
  rw [chB_is] at HK
  obtain ⟨z1, z2, z3, z4⟩ := hz
  dsimp only at z1 z2 z3 z4
  have HZ := Lib.hid (And.intro z1 (And.intro z2 (And.intro z3 z4)))
  clear z1 z2 z3 z4
  obtain ⟨wd, hwd⟩ : ∃ x, createW = x := ⟨_, rfl⟩
  obtain ⟨fm, hfm⟩ : ∃ x, fmtS (t, s, r) = x := ⟨_, rfl⟩
  have HWd := Lib.hid hwd
  have HFm := Lib.hid hfm
  have HSt := Lib.hid (show ∀ V : World, BxC w w.heap.size ⟨(t, s, r), 1, i, n, a, v⟩ V → (fun V => V.cell? ⟨w.heap.size, 3, none⟩ = some (.int .i64 1) ∧ V.cell? ⟨0, 0, none⟩ = some (.string wd) ∧ V.cell? ⟨w.heap.size, 0, none⟩ = some (.int .i64 t) ∧ V.cell? ⟨w.heap.size, 1, none⟩ = some (.int .i64 s) ∧ V.cell? ⟨w.heap.size, 2, none⟩ = some (.int .i64 r) ∧ V.cell? ⟨w.heap.size, 4, none⟩ = some (.string i) ∧ Hid (BxC w w.heap.size ⟨(t, s, r), 1, i, n, a, v⟩ V)) V from fun V h => ⟨(at8_box h.box).c3, by rw [← hwd]; exact h.ok.op 0 (by decide), (at8_box h.box).c0, (at8_box h.box).c1, (at8_box h.box).c2, (at8_box h.box).c4, Lib.hid h⟩)
  clear hwd hfm
  obtain ⟨x1, hx1⟩ : ∃ x, escA n = x := ⟨_, rfl⟩
  have HX1 := Lib.hid hx1
  have HLn := Lib.hid (show joinB 32 [wd, fm, i, x1] = lineG ⟨(t, s, r), 1, i, n, a, v⟩ from by rw [← HWd.out, ← HFm.out, ← hx1]; rfl)
  have HSz := Lib.hid (show ∀ q ∈ [wd, fm, i, x1], q.size ≤ 1000000000 from fun q hq => by
    simp only [List.mem_cons, List.not_mem_nil, or_false] at hq
    rcases hq with rfl | rfl | rfl | rfl
    · rw [← HWd.out]; exact Nat.le_trans (word_size 1) (by omega)
    · rw [← HFm.out]; exact Nat.le_trans (fmt_size _) (by omega)
    · exact Nat.le_trans HZ.out.1 (by omega)
    · rw [← hx1]; exact Nat.le_trans (esc_size _ HZ.out.2.1) (by omega))
  clear hx1
  rw [← HLn.out]
  go_enter Tryz.func42, Tryz.ntmps42
  go_wp2_with fail
  generalize w.alloc (.cells #[.int .i64 t, .int .i64 s, .int .i64 r, .int .i64 1, .string i, .string n, .string a, .string v] 26) = W0 at HK ⊢
  have S0 := HSt.out _ HK.out.drew
  refine wp_region_held_drew (S := fun V => V.cell? ⟨w.heap.size, 3, none⟩ = some (.int .i64 1) ∧ V.cell? ⟨0, 0, none⟩ = some (.string wd) ∧ V.cell? ⟨w.heap.size, 0, none⟩ = some (.int .i64 t) ∧ V.cell? ⟨w.heap.size, 1, none⟩ = some (.int .i64 s) ∧ V.cell? ⟨w.heap.size, 2, none⟩ = some (.int .i64 r) ∧ V.cell? ⟨w.heap.size, 4, none⟩ = some (.string i) ∧ Hid (BxC w w.heap.size ⟨(t, s, r), 1, i, n, a, v⟩ V)) (by kernel_rfl) (S0) (fun hS => ?_)
  refine wpAnyH_take (i := 0) (oi := { dst := some 6, op := _, type := _, pos := _, after := _, guard := _ }) (v := ?_) rfl (by kernel_rfl) (by kernel_rfl) (by kernel_rfl) (fun _ _ _ h => h) (Or.inl ⟨by rfl, ?_⟩) (by assumption) ?_
  rotate_left
  · intro w hSw
    try dsimp only at hSw
    go_simp
    try with_reducible rfl
  try simp only [Act.put, List.setIfInBounds_toArray, List.set_cons_zero, List.set_cons_succ]
  refine wpAnyH_take (i := 1) (oi := { dst := some 7, op := _, type := _, pos := _, after := _, guard := _ }) (v := ?_) rfl (by kernel_rfl) (by kernel_rfl) (by kernel_rfl) (fun _ _ _ h => h) (Or.inl ⟨by rfl, ?_⟩) (by assumption) ?_
  rotate_left
  · intro w hSw
    try dsimp only at hSw
    go_simp
    try with_reducible rfl
  try simp only [Act.put, List.setIfInBounds_toArray, List.set_cons_zero, List.set_cons_succ]
  refine wpAnyH_take (i := 2) (oi := { dst := some 8, op := _, type := _, pos := _, after := _, guard := _ }) (v := ?_) rfl (by kernel_rfl) (by kernel_rfl) (by kernel_rfl) (fun _ _ _ h => h) (Or.inl ⟨by rfl, ?_⟩) (by assumption) ?_
  rotate_left
  · intro w hSw
    try dsimp only at hSw
    go_simp
    rw [show IntKind.i64.wrap 0 = 0 by decide]
    try with_reducible rfl
  try simp only [Act.put, List.setIfInBounds_toArray, List.set_cons_zero, List.set_cons_succ]
  refine wpAnyH_take (i := 3) (oi := { dst := some 9, op := _, type := _, pos := _, after := _, guard := _ }) (v := ?_) rfl (by kernel_rfl) (by kernel_rfl) (by kernel_rfl) (fun _ _ _ h => h) (Or.inl ⟨by rfl, ?_⟩) (by assumption) ?_
  rotate_left
  · intro w hSw
    try dsimp only at hSw
    go_simp
    try with_reducible rfl
  try simp only [Act.put, List.setIfInBounds_toArray, List.set_cons_zero, List.set_cons_succ]
  refine wpAnyH_take (i := 4) (oi := { dst := some 10, op := _, type := _, pos := _, after := _, guard := _ }) (v := ?_) rfl (by kernel_rfl) (by kernel_rfl) (by kernel_rfl) (fun _ _ _ h => h) (Or.inl ⟨by rfl, ?_⟩) (by assumption) ?_
  rotate_left
  · intro w hSw
    try dsimp only at hSw
    go_simp
    try with_reducible rfl
  try simp only [Act.put, List.setIfInBounds_toArray, List.set_cons_zero, List.set_cons_succ]
  refine wpAnyH_take (i := 5) (oi := { dst := some 11, op := _, type := _, pos := _, after := _, guard := _ }) (v := ?_) rfl (by kernel_rfl) (by kernel_rfl) (by kernel_rfl) (fun _ _ _ h => h) (Or.inl ⟨by rfl, ?_⟩) (by assumption) ?_
  rotate_left
  · intro w hSw
    try dsimp only at hSw
    go_simp
    try with_reducible rfl
  try simp only [Act.put, List.setIfInBounds_toArray, List.set_cons_zero, List.set_cons_succ]
  refine wpAnyH_take (i := 6) (oi := { dst := some 12, op := _, type := _, pos := _, after := _, guard := _ }) (v := ?_) rfl (by kernel_rfl) (by kernel_rfl) (by kernel_rfl) (fun _ _ _ h => h) (Or.inl ⟨by rfl, ?_⟩) (by assumption) ?_
  rotate_left
  · intro w hSw
    try dsimp only at hSw
    go_simp
    try with_reducible rfl
  try simp only [Act.put, List.setIfInBounds_toArray, List.set_cons_zero, List.set_cons_succ]
  refine wpAnyH_take (i := 8) (oi := { dst := some 14, op := _, type := _, pos := _, after := _, guard := _ }) (v := ?_) rfl (by kernel_rfl) (by kernel_rfl) (by kernel_rfl) (fun _ _ _ h => h) (Or.inl ⟨by rfl, ?_⟩) (by assumption) ?_
  rotate_left
  · intro w hSw
    try dsimp only at hSw
    go_simp
    try with_reducible rfl
  try simp only [Act.put, List.setIfInBounds_toArray, List.set_cons_zero, List.set_cons_succ]
  refine wpAnyH_take (i := 9) (oi := { dst := some 15, op := _, type := _, pos := _, after := _, guard := _ }) (v := ?_) rfl (by kernel_rfl) (by kernel_rfl) (by kernel_rfl) (fun _ _ _ h => h) (Or.inl ⟨by rfl, ?_⟩) (by assumption) ?_
  rotate_left
  · intro w hSw
    try dsimp only at hSw
    go_simp
    try with_reducible rfl
  try simp only [Act.put, List.setIfInBounds_toArray, List.set_cons_zero, List.set_cons_succ]
  refine wpAnyH_ready (rs := [7]) (by kernel_rfl) (by simp) ?_
  refine AllReadyH.cons rfl (fun K hK => ?_) AllReadyH.nil
  go_simp
  refine (Csn.format_s (t, s, r) _ hS.2.2.2.2.2.2.out.ok.tz).mono ?_
  rintro e v1 ⟨rfl, hb⟩
  rw [HFm.out]
  have HK1 := Lib.hid (hS.2.2.2.2.2.2.out.step hb)
  clear hb
  go_wp2_with fail
  refine hK.out _ _ ?_ (fun hHeld => ?_)
  · exact HSt.out _ HK1.out
  clear hK K
  try simp only [Act.put, List.setIfInBounds_toArray, List.set_cons_zero, List.set_cons_succ]
  refine wpAnyH_ready (rs := [10]) (by kernel_rfl) (by simp) ?_
  refine AllReadyH.cons rfl (fun K hK => ?_) AllReadyH.nil
  go_simp
  refine hK.out _ _ ?_ (fun hHeld => ?_)
  · exact HSt.out _ (HK1.out.step (box_below _ _))
  clear hK K
  have HOw := Lib.hid (own3 v1 wd fm i)
  have HK2 := Lib.hid (HK1.out.step (box_below v1 (.cells #[.string wd, .string fm, .string i] 9)))
  try simp only [Act.put, List.setIfInBounds_toArray, List.set_cons_zero, List.set_cons_succ]
  refine wpAnyH_take (i := 11) (oi := { dst := some 3, op := _, type := _, pos := _, after := _, guard := _ }) (v := ?_) rfl (by kernel_rfl) (by kernel_rfl) (by kernel_rfl) (fun _ _ _ h => h) (Or.inl ⟨by rfl, ?_⟩) (by assumption) ?_
  rotate_left
  · intro w hSw
    try dsimp only at hSw
    go_simp
    try with_reducible rfl
  try simp only [Act.put, List.setIfInBounds_toArray, List.set_cons_zero, List.set_cons_succ]
  refine wpAnyH_done (by kernel_rfl) ?_ _
  clear hHeld S0 hS HSt
  go_wp2_with fail
  generalize v1.alloc (.cells #[.string wd, .string fm, .string i] 9) = W2 at HOw HK2 ⊢
  have HO := Lib.hid ho
  have HLt := Lib.hid (show w.heap.size < v1.heap.size from Csn.KbC.big HK1.out.box)
  have HL2 := Lib.hid (show v1.heap.size < W2.heap.size from by
    obtain ⟨g, hg⟩ : ∃ g, g = v1.heap.size := ⟨_, rfl⟩
    exact (HOw.out.lt v1.heap.size rfl).2)
  clear ho
  refine (fieldsN_s _ 1 W2 (at8_box HK2.out.box).c3 rfl).mono ?_
  rintro e w3 ⟨rfl, rfl⟩
  have hbl : Below W2.heap.size W2 ((W2.alloc (.cells #[.pointer (some ⟨w.heap.size, 5, none⟩)] 121))) := (box_below W2 (.cells #[.pointer (some ⟨w.heap.size, 5, none⟩)] 121))
  have HP := Lib.hid (show KbC ((W2.alloc (.cells #[.pointer (some ⟨w.heap.size, 5, none⟩)] 121))) W2.heap.size (.cells #[.pointer (some ⟨w.heap.size, 5, none⟩)] 121) from kbc_new W2 _)
  have HK3 := Lib.hid (HK2.out.step hbl)
  have HOw := Lib.hid (own_below HOw.out hbl)
  clear hbl
  generalize ((W2.alloc (.cells #[.pointer (some ⟨w.heap.size, 5, none⟩)] 121))) = W3 at HP HK3 HOw ⊢
  have d0 := Csn.KbC.cell (i := 0) HP.out rfl
  have c5 := (at8_box HK3.out.box).c5
  dsimp only at c5
  go_wp2_with fail
  refine wp_loop_rounds 2 ?_
  rw [rounds_succ]
  go_wp2_with fail
  have HL3 := Lib.hid (Nat.le_trans (Nat.le_of_lt HL2.out) (show W2.heap.size ≤ W3.heap.size from Nat.le_of_lt (Csn.KbC.big HP.out)))
  refine (escape_k n x1 _ HZ.out.2.1 HX1.out).mono ?_
  rintro e w4 ⟨rfl, hb⟩
  have HKw4 := Lib.hid (HK3.out.step hb)
  have HOw := Lib.hid (own_below HOw.out hb)
  have HP := Lib.hid (Csn.KbC.step HP.out hb)
  have HLe := Lib.hid (Nat.le_trans HL3.out hb.size)
  clear hb d0 c5
  go_wp2_with (at_builtin; go_must (refine push_strG _ HOw.out (.tmp 23) (.tmp 28) x1 ?_ ?_ ?_ ?_ ?_ ?_ ?_; exact rfl; exact rfl; exact rfl; exact rfl; omega; exact HLe.out; intro v5 w5 hown5 hg5 hb5))
  rw [← scells_snoc] at hown5
  have HK5 := Lib.hid (HKw4.out.far HO.out (Nat.le_of_lt HLt.out) HLt.out hb5)
  have HOw := Lib.hid hown5
  obtain ⟨ao, cap, hv, hst⟩ := strs_own hown5 rfl
  rw [hv]
  have hst := Lib.hid hst
  clear hown5 hg5 hb5
  rw [rounds_succ]
  go_wp2_with fail
  refine (joinF_s 32 _ 4 _ [wd, fm, i, x1] _ hst.out (by decide) (by decide) HSz.out).mono ?_
  rintro e wz ⟨rfl, hb⟩
  have HBz := Lib.hid (HK5.out.low.trans (hb.mono HK5.out.low.size))
  clear hb
  go_wp2_with fail
  go_ret
  exact ⟨rfl, HBz.out⟩
set_option maxHeartbeats 8000000 in
theorem line2_s (t s r : Int) (i n a v : ByteArray) (w : World) (hz : SmG ⟨(t, s, r), 2, i, n, a, v⟩) (ho : COk w) :
    Calls Tryz.prog 42 #[chV ⟨(t, s, r), 2, i, n, a, v⟩] w fun e w' => e = .returned (.string (lineG ⟨(t, s, r), 2, i, n, a, v⟩)) ∧ Below w.heap.size w w' := by
  rw [chV_is]
  have HK := Lib.hid (bxc_new w ⟨(t, s, r), 2, i, n, a, v⟩ ho)
  rw [chB_is] at HK
  obtain ⟨z1, z2, z3, z4⟩ := hz
  dsimp only at z1 z2 z3 z4
  have HZ := Lib.hid (And.intro z1 (And.intro z2 (And.intro z3 z4)))
  clear z1 z2 z3 z4
  obtain ⟨wd, hwd⟩ : ∃ x, removeW = x := ⟨_, rfl⟩
  obtain ⟨fm, hfm⟩ : ∃ x, fmtS (t, s, r) = x := ⟨_, rfl⟩
  have HWd := Lib.hid hwd
  have HFm := Lib.hid hfm
  have HSt := Lib.hid (show ∀ V : World, BxC w w.heap.size ⟨(t, s, r), 2, i, n, a, v⟩ V → (fun V => V.cell? ⟨w.heap.size, 3, none⟩ = some (.int .i64 2) ∧ V.cell? ⟨0, 1, none⟩ = some (.string wd) ∧ V.cell? ⟨w.heap.size, 0, none⟩ = some (.int .i64 t) ∧ V.cell? ⟨w.heap.size, 1, none⟩ = some (.int .i64 s) ∧ V.cell? ⟨w.heap.size, 2, none⟩ = some (.int .i64 r) ∧ V.cell? ⟨w.heap.size, 4, none⟩ = some (.string i) ∧ Hid (BxC w w.heap.size ⟨(t, s, r), 2, i, n, a, v⟩ V)) V from fun V h => ⟨(at8_box h.box).c3, by rw [← hwd]; exact h.ok.op 1 (by decide), (at8_box h.box).c0, (at8_box h.box).c1, (at8_box h.box).c2, (at8_box h.box).c4, Lib.hid h⟩)
  clear hwd hfm
  have HLn := Lib.hid (show joinB 32 [wd, fm, i] = lineG ⟨(t, s, r), 2, i, n, a, v⟩ from by rw [← HWd.out, ← HFm.out]; rfl)
  have HSz := Lib.hid (show ∀ q ∈ [wd, fm, i], q.size ≤ 1000000000 from fun q hq => by
    simp only [List.mem_cons, List.not_mem_nil, or_false] at hq
    rcases hq with rfl | rfl | rfl
    · rw [← HWd.out]; exact Nat.le_trans (word_size 2) (by omega)
    · rw [← HFm.out]; exact Nat.le_trans (fmt_size _) (by omega)
    · exact Nat.le_trans HZ.out.1 (by omega))
  rw [← HLn.out]
  go_enter Tryz.func42, Tryz.ntmps42
  go_wp2_with fail
  generalize w.alloc (.cells #[.int .i64 t, .int .i64 s, .int .i64 r, .int .i64 2, .string i, .string n, .string a, .string v] 26) = W0 at HK ⊢
  have S0 := HSt.out _ HK.out.drew
  refine wp_region_held_drew (S := fun V => V.cell? ⟨w.heap.size, 3, none⟩ = some (.int .i64 2) ∧ V.cell? ⟨0, 1, none⟩ = some (.string wd) ∧ V.cell? ⟨w.heap.size, 0, none⟩ = some (.int .i64 t) ∧ V.cell? ⟨w.heap.size, 1, none⟩ = some (.int .i64 s) ∧ V.cell? ⟨w.heap.size, 2, none⟩ = some (.int .i64 r) ∧ V.cell? ⟨w.heap.size, 4, none⟩ = some (.string i) ∧ Hid (BxC w w.heap.size ⟨(t, s, r), 2, i, n, a, v⟩ V)) (by kernel_rfl) (S0) (fun hS => ?_)
  refine wpAnyH_take (i := 0) (oi := { dst := some 6, op := _, type := _, pos := _, after := _, guard := _ }) (v := ?_) rfl (by kernel_rfl) (by kernel_rfl) (by kernel_rfl) (fun _ _ _ h => h) (Or.inl ⟨by rfl, ?_⟩) (by assumption) ?_
  rotate_left
  · intro w hSw
    try dsimp only at hSw
    go_simp
    try with_reducible rfl
  try simp only [Act.put, List.setIfInBounds_toArray, List.set_cons_zero, List.set_cons_succ]
  refine wpAnyH_take (i := 1) (oi := { dst := some 7, op := _, type := _, pos := _, after := _, guard := _ }) (v := ?_) rfl (by kernel_rfl) (by kernel_rfl) (by kernel_rfl) (fun _ _ _ h => h) (Or.inl ⟨by rfl, ?_⟩) (by assumption) ?_
  rotate_left
  · intro w hSw
    try dsimp only at hSw
    go_simp
    try with_reducible rfl
  try simp only [Act.put, List.setIfInBounds_toArray, List.set_cons_zero, List.set_cons_succ]
  refine wpAnyH_take (i := 2) (oi := { dst := some 8, op := _, type := _, pos := _, after := _, guard := _ }) (v := ?_) rfl (by kernel_rfl) (by kernel_rfl) (by kernel_rfl) (fun _ _ _ h => h) (Or.inl ⟨by rfl, ?_⟩) (by assumption) ?_
  rotate_left
  · intro w hSw
    try dsimp only at hSw
    go_simp
    rw [show IntKind.i64.wrap 1 = 1 by decide]
    try with_reducible rfl
  try simp only [Act.put, List.setIfInBounds_toArray, List.set_cons_zero, List.set_cons_succ]
  refine wpAnyH_take (i := 3) (oi := { dst := some 9, op := _, type := _, pos := _, after := _, guard := _ }) (v := ?_) rfl (by kernel_rfl) (by kernel_rfl) (by kernel_rfl) (fun _ _ _ h => h) (Or.inl ⟨by rfl, ?_⟩) (by assumption) ?_
  rotate_left
  · intro w hSw
    try dsimp only at hSw
    go_simp
    try with_reducible rfl
  try simp only [Act.put, List.setIfInBounds_toArray, List.set_cons_zero, List.set_cons_succ]
  refine wpAnyH_take (i := 4) (oi := { dst := some 10, op := _, type := _, pos := _, after := _, guard := _ }) (v := ?_) rfl (by kernel_rfl) (by kernel_rfl) (by kernel_rfl) (fun _ _ _ h => h) (Or.inl ⟨by rfl, ?_⟩) (by assumption) ?_
  rotate_left
  · intro w hSw
    try dsimp only at hSw
    go_simp
    try with_reducible rfl
  try simp only [Act.put, List.setIfInBounds_toArray, List.set_cons_zero, List.set_cons_succ]
  refine wpAnyH_take (i := 5) (oi := { dst := some 11, op := _, type := _, pos := _, after := _, guard := _ }) (v := ?_) rfl (by kernel_rfl) (by kernel_rfl) (by kernel_rfl) (fun _ _ _ h => h) (Or.inl ⟨by rfl, ?_⟩) (by assumption) ?_
  rotate_left
  · intro w hSw
    try dsimp only at hSw
    go_simp
    try with_reducible rfl
  try simp only [Act.put, List.setIfInBounds_toArray, List.set_cons_zero, List.set_cons_succ]
  refine wpAnyH_take (i := 6) (oi := { dst := some 12, op := _, type := _, pos := _, after := _, guard := _ }) (v := ?_) rfl (by kernel_rfl) (by kernel_rfl) (by kernel_rfl) (fun _ _ _ h => h) (Or.inl ⟨by rfl, ?_⟩) (by assumption) ?_
  rotate_left
  · intro w hSw
    try dsimp only at hSw
    go_simp
    try with_reducible rfl
  try simp only [Act.put, List.setIfInBounds_toArray, List.set_cons_zero, List.set_cons_succ]
  refine wpAnyH_take (i := 8) (oi := { dst := some 14, op := _, type := _, pos := _, after := _, guard := _ }) (v := ?_) rfl (by kernel_rfl) (by kernel_rfl) (by kernel_rfl) (fun _ _ _ h => h) (Or.inl ⟨by rfl, ?_⟩) (by assumption) ?_
  rotate_left
  · intro w hSw
    try dsimp only at hSw
    go_simp
    try with_reducible rfl
  try simp only [Act.put, List.setIfInBounds_toArray, List.set_cons_zero, List.set_cons_succ]
  refine wpAnyH_take (i := 9) (oi := { dst := some 15, op := _, type := _, pos := _, after := _, guard := _ }) (v := ?_) rfl (by kernel_rfl) (by kernel_rfl) (by kernel_rfl) (fun _ _ _ h => h) (Or.inl ⟨by rfl, ?_⟩) (by assumption) ?_
  rotate_left
  · intro w hSw
    try dsimp only at hSw
    go_simp
    try with_reducible rfl
  try simp only [Act.put, List.setIfInBounds_toArray, List.set_cons_zero, List.set_cons_succ]
  refine wpAnyH_ready (rs := [7]) (by kernel_rfl) (by simp) ?_
  refine AllReadyH.cons rfl (fun K hK => ?_) AllReadyH.nil
  go_simp
  refine (Csn.format_s (t, s, r) _ hS.2.2.2.2.2.2.out.ok.tz).mono ?_
  rintro e v1 ⟨rfl, hb⟩
  rw [HFm.out]
  have HK1 := Lib.hid (hS.2.2.2.2.2.2.out.step hb)
  clear hb
  go_wp2_with fail
  refine hK.out _ _ ?_ (fun hHeld => ?_)
  · exact HSt.out _ HK1.out
  clear hK K
  try simp only [Act.put, List.setIfInBounds_toArray, List.set_cons_zero, List.set_cons_succ]
  refine wpAnyH_ready (rs := [10]) (by kernel_rfl) (by simp) ?_
  refine AllReadyH.cons rfl (fun K hK => ?_) AllReadyH.nil
  go_simp
  refine hK.out _ _ ?_ (fun hHeld => ?_)
  · exact HSt.out _ (HK1.out.step (box_below _ _))
  clear hK K
  have HOw := Lib.hid (own3 v1 wd fm i)
  have HK2 := Lib.hid (HK1.out.step (box_below v1 (.cells #[.string wd, .string fm, .string i] 9)))
  try simp only [Act.put, List.setIfInBounds_toArray, List.set_cons_zero, List.set_cons_succ]
  refine wpAnyH_take (i := 11) (oi := { dst := some 3, op := _, type := _, pos := _, after := _, guard := _ }) (v := ?_) rfl (by kernel_rfl) (by kernel_rfl) (by kernel_rfl) (fun _ _ _ h => h) (Or.inl ⟨by rfl, ?_⟩) (by assumption) ?_
  rotate_left
  · intro w hSw
    try dsimp only at hSw
    go_simp
    try with_reducible rfl
  try simp only [Act.put, List.setIfInBounds_toArray, List.set_cons_zero, List.set_cons_succ]
  refine wpAnyH_done (by kernel_rfl) ?_ _
  clear hHeld S0 hS HSt
  go_wp2_with fail
  generalize v1.alloc (.cells #[.string wd, .string fm, .string i] 9) = W2 at HOw HK2 ⊢
  have HO := Lib.hid ho
  have HLt := Lib.hid (show w.heap.size < v1.heap.size from Csn.KbC.big HK1.out.box)
  have HL2 := Lib.hid (show v1.heap.size < W2.heap.size from by
    obtain ⟨g, hg⟩ : ∃ g, g = v1.heap.size := ⟨_, rfl⟩
    exact (HOw.out.lt v1.heap.size rfl).2)
  clear ho
  refine (fields0_s _ 2 W2 (at8_box HK2.out.box).c3 rfl rfl).mono ?_
  rintro e w3 ⟨rfl, rfl⟩
  go_wp2_with fail
  refine wp_loop_rounds 1 ?_
  rw [rounds_succ]
  go_wp2_with fail
  have hst := Lib.hid (own_strs HOw.out rfl)
  refine (joinF_s 32 _ 3 _ [wd, fm, i] _ hst.out (by decide) (by decide) HSz.out).mono ?_
  rintro e wz ⟨rfl, hb⟩
  have HBz := Lib.hid (HK2.out.low.trans (hb.mono HK2.out.low.size))
  clear hb
  go_wp2_with fail
  go_ret
  exact ⟨rfl, HBz.out⟩
set_option maxHeartbeats 8000000 in
theorem line3_s (t s r : Int) (i n a v : ByteArray) (w : World) (hz : SmG ⟨(t, s, r), 3, i, n, a, v⟩) (ho : COk w) :
    Calls Tryz.prog 42 #[chV ⟨(t, s, r), 3, i, n, a, v⟩] w fun e w' => e = .returned (.string (lineG ⟨(t, s, r), 3, i, n, a, v⟩)) ∧ Below w.heap.size w w' := by
  rw [chV_is]
  have HK := Lib.hid (bxc_new w ⟨(t, s, r), 3, i, n, a, v⟩ ho)
  rw [chB_is] at HK
  obtain ⟨z1, z2, z3, z4⟩ := hz
  dsimp only at z1 z2 z3 z4
  have HZ := Lib.hid (And.intro z1 (And.intro z2 (And.intro z3 z4)))
  clear z1 z2 z3 z4
  obtain ⟨wd, hwd⟩ : ∃ x, renameW = x := ⟨_, rfl⟩
  obtain ⟨fm, hfm⟩ : ∃ x, fmtS (t, s, r) = x := ⟨_, rfl⟩
  have HWd := Lib.hid hwd
  have HFm := Lib.hid hfm
  have HSt := Lib.hid (show ∀ V : World, BxC w w.heap.size ⟨(t, s, r), 3, i, n, a, v⟩ V → (fun V => V.cell? ⟨w.heap.size, 3, none⟩ = some (.int .i64 3) ∧ V.cell? ⟨0, 2, none⟩ = some (.string wd) ∧ V.cell? ⟨w.heap.size, 0, none⟩ = some (.int .i64 t) ∧ V.cell? ⟨w.heap.size, 1, none⟩ = some (.int .i64 s) ∧ V.cell? ⟨w.heap.size, 2, none⟩ = some (.int .i64 r) ∧ V.cell? ⟨w.heap.size, 4, none⟩ = some (.string i) ∧ Hid (BxC w w.heap.size ⟨(t, s, r), 3, i, n, a, v⟩ V)) V from fun V h => ⟨(at8_box h.box).c3, by rw [← hwd]; exact h.ok.op 2 (by decide), (at8_box h.box).c0, (at8_box h.box).c1, (at8_box h.box).c2, (at8_box h.box).c4, Lib.hid h⟩)
  clear hwd hfm
  obtain ⟨x1, hx1⟩ : ∃ x, escA n = x := ⟨_, rfl⟩
  have HX1 := Lib.hid hx1
  have HLn := Lib.hid (show joinB 32 [wd, fm, i, x1] = lineG ⟨(t, s, r), 3, i, n, a, v⟩ from by rw [← HWd.out, ← HFm.out, ← hx1]; rfl)
  have HSz := Lib.hid (show ∀ q ∈ [wd, fm, i, x1], q.size ≤ 1000000000 from fun q hq => by
    simp only [List.mem_cons, List.not_mem_nil, or_false] at hq
    rcases hq with rfl | rfl | rfl | rfl
    · rw [← HWd.out]; exact Nat.le_trans (word_size 3) (by omega)
    · rw [← HFm.out]; exact Nat.le_trans (fmt_size _) (by omega)
    · exact Nat.le_trans HZ.out.1 (by omega)
    · rw [← hx1]; exact Nat.le_trans (esc_size _ HZ.out.2.1) (by omega))
  clear hx1
  rw [← HLn.out]
  go_enter Tryz.func42, Tryz.ntmps42
  go_wp2_with fail
  generalize w.alloc (.cells #[.int .i64 t, .int .i64 s, .int .i64 r, .int .i64 3, .string i, .string n, .string a, .string v] 26) = W0 at HK ⊢
  have S0 := HSt.out _ HK.out.drew
  refine wp_region_held_drew (S := fun V => V.cell? ⟨w.heap.size, 3, none⟩ = some (.int .i64 3) ∧ V.cell? ⟨0, 2, none⟩ = some (.string wd) ∧ V.cell? ⟨w.heap.size, 0, none⟩ = some (.int .i64 t) ∧ V.cell? ⟨w.heap.size, 1, none⟩ = some (.int .i64 s) ∧ V.cell? ⟨w.heap.size, 2, none⟩ = some (.int .i64 r) ∧ V.cell? ⟨w.heap.size, 4, none⟩ = some (.string i) ∧ Hid (BxC w w.heap.size ⟨(t, s, r), 3, i, n, a, v⟩ V)) (by kernel_rfl) (S0) (fun hS => ?_)
  refine wpAnyH_take (i := 0) (oi := { dst := some 6, op := _, type := _, pos := _, after := _, guard := _ }) (v := ?_) rfl (by kernel_rfl) (by kernel_rfl) (by kernel_rfl) (fun _ _ _ h => h) (Or.inl ⟨by rfl, ?_⟩) (by assumption) ?_
  rotate_left
  · intro w hSw
    try dsimp only at hSw
    go_simp
    try with_reducible rfl
  try simp only [Act.put, List.setIfInBounds_toArray, List.set_cons_zero, List.set_cons_succ]
  refine wpAnyH_take (i := 1) (oi := { dst := some 7, op := _, type := _, pos := _, after := _, guard := _ }) (v := ?_) rfl (by kernel_rfl) (by kernel_rfl) (by kernel_rfl) (fun _ _ _ h => h) (Or.inl ⟨by rfl, ?_⟩) (by assumption) ?_
  rotate_left
  · intro w hSw
    try dsimp only at hSw
    go_simp
    try with_reducible rfl
  try simp only [Act.put, List.setIfInBounds_toArray, List.set_cons_zero, List.set_cons_succ]
  refine wpAnyH_take (i := 2) (oi := { dst := some 8, op := _, type := _, pos := _, after := _, guard := _ }) (v := ?_) rfl (by kernel_rfl) (by kernel_rfl) (by kernel_rfl) (fun _ _ _ h => h) (Or.inl ⟨by rfl, ?_⟩) (by assumption) ?_
  rotate_left
  · intro w hSw
    try dsimp only at hSw
    go_simp
    rw [show IntKind.i64.wrap 2 = 2 by decide]
    try with_reducible rfl
  try simp only [Act.put, List.setIfInBounds_toArray, List.set_cons_zero, List.set_cons_succ]
  refine wpAnyH_take (i := 3) (oi := { dst := some 9, op := _, type := _, pos := _, after := _, guard := _ }) (v := ?_) rfl (by kernel_rfl) (by kernel_rfl) (by kernel_rfl) (fun _ _ _ h => h) (Or.inl ⟨by rfl, ?_⟩) (by assumption) ?_
  rotate_left
  · intro w hSw
    try dsimp only at hSw
    go_simp
    try with_reducible rfl
  try simp only [Act.put, List.setIfInBounds_toArray, List.set_cons_zero, List.set_cons_succ]
  refine wpAnyH_take (i := 4) (oi := { dst := some 10, op := _, type := _, pos := _, after := _, guard := _ }) (v := ?_) rfl (by kernel_rfl) (by kernel_rfl) (by kernel_rfl) (fun _ _ _ h => h) (Or.inl ⟨by rfl, ?_⟩) (by assumption) ?_
  rotate_left
  · intro w hSw
    try dsimp only at hSw
    go_simp
    try with_reducible rfl
  try simp only [Act.put, List.setIfInBounds_toArray, List.set_cons_zero, List.set_cons_succ]
  refine wpAnyH_take (i := 5) (oi := { dst := some 11, op := _, type := _, pos := _, after := _, guard := _ }) (v := ?_) rfl (by kernel_rfl) (by kernel_rfl) (by kernel_rfl) (fun _ _ _ h => h) (Or.inl ⟨by rfl, ?_⟩) (by assumption) ?_
  rotate_left
  · intro w hSw
    try dsimp only at hSw
    go_simp
    try with_reducible rfl
  try simp only [Act.put, List.setIfInBounds_toArray, List.set_cons_zero, List.set_cons_succ]
  refine wpAnyH_take (i := 6) (oi := { dst := some 12, op := _, type := _, pos := _, after := _, guard := _ }) (v := ?_) rfl (by kernel_rfl) (by kernel_rfl) (by kernel_rfl) (fun _ _ _ h => h) (Or.inl ⟨by rfl, ?_⟩) (by assumption) ?_
  rotate_left
  · intro w hSw
    try dsimp only at hSw
    go_simp
    try with_reducible rfl
  try simp only [Act.put, List.setIfInBounds_toArray, List.set_cons_zero, List.set_cons_succ]
  refine wpAnyH_take (i := 8) (oi := { dst := some 14, op := _, type := _, pos := _, after := _, guard := _ }) (v := ?_) rfl (by kernel_rfl) (by kernel_rfl) (by kernel_rfl) (fun _ _ _ h => h) (Or.inl ⟨by rfl, ?_⟩) (by assumption) ?_
  rotate_left
  · intro w hSw
    try dsimp only at hSw
    go_simp
    try with_reducible rfl
  try simp only [Act.put, List.setIfInBounds_toArray, List.set_cons_zero, List.set_cons_succ]
  refine wpAnyH_take (i := 9) (oi := { dst := some 15, op := _, type := _, pos := _, after := _, guard := _ }) (v := ?_) rfl (by kernel_rfl) (by kernel_rfl) (by kernel_rfl) (fun _ _ _ h => h) (Or.inl ⟨by rfl, ?_⟩) (by assumption) ?_
  rotate_left
  · intro w hSw
    try dsimp only at hSw
    go_simp
    try with_reducible rfl
  try simp only [Act.put, List.setIfInBounds_toArray, List.set_cons_zero, List.set_cons_succ]
  refine wpAnyH_ready (rs := [7]) (by kernel_rfl) (by simp) ?_
  refine AllReadyH.cons rfl (fun K hK => ?_) AllReadyH.nil
  go_simp
  refine (Csn.format_s (t, s, r) _ hS.2.2.2.2.2.2.out.ok.tz).mono ?_
  rintro e v1 ⟨rfl, hb⟩
  rw [HFm.out]
  have HK1 := Lib.hid (hS.2.2.2.2.2.2.out.step hb)
  clear hb
  go_wp2_with fail
  refine hK.out _ _ ?_ (fun hHeld => ?_)
  · exact HSt.out _ HK1.out
  clear hK K
  try simp only [Act.put, List.setIfInBounds_toArray, List.set_cons_zero, List.set_cons_succ]
  refine wpAnyH_ready (rs := [10]) (by kernel_rfl) (by simp) ?_
  refine AllReadyH.cons rfl (fun K hK => ?_) AllReadyH.nil
  go_simp
  refine hK.out _ _ ?_ (fun hHeld => ?_)
  · exact HSt.out _ (HK1.out.step (box_below _ _))
  clear hK K
  have HOw := Lib.hid (own3 v1 wd fm i)
  have HK2 := Lib.hid (HK1.out.step (box_below v1 (.cells #[.string wd, .string fm, .string i] 9)))
  try simp only [Act.put, List.setIfInBounds_toArray, List.set_cons_zero, List.set_cons_succ]
  refine wpAnyH_take (i := 11) (oi := { dst := some 3, op := _, type := _, pos := _, after := _, guard := _ }) (v := ?_) rfl (by kernel_rfl) (by kernel_rfl) (by kernel_rfl) (fun _ _ _ h => h) (Or.inl ⟨by rfl, ?_⟩) (by assumption) ?_
  rotate_left
  · intro w hSw
    try dsimp only at hSw
    go_simp
    try with_reducible rfl
  try simp only [Act.put, List.setIfInBounds_toArray, List.set_cons_zero, List.set_cons_succ]
  refine wpAnyH_done (by kernel_rfl) ?_ _
  clear hHeld S0 hS HSt
  go_wp2_with fail
  generalize v1.alloc (.cells #[.string wd, .string fm, .string i] 9) = W2 at HOw HK2 ⊢
  have HO := Lib.hid ho
  have HLt := Lib.hid (show w.heap.size < v1.heap.size from Csn.KbC.big HK1.out.box)
  have HL2 := Lib.hid (show v1.heap.size < W2.heap.size from by
    obtain ⟨g, hg⟩ : ∃ g, g = v1.heap.size := ⟨_, rfl⟩
    exact (HOw.out.lt v1.heap.size rfl).2)
  clear ho
  refine (fieldsN_s _ 3 W2 (at8_box HK2.out.box).c3 rfl).mono ?_
  rintro e w3 ⟨rfl, rfl⟩
  have hbl : Below W2.heap.size W2 ((W2.alloc (.cells #[.pointer (some ⟨w.heap.size, 5, none⟩)] 121))) := (box_below W2 (.cells #[.pointer (some ⟨w.heap.size, 5, none⟩)] 121))
  have HP := Lib.hid (show KbC ((W2.alloc (.cells #[.pointer (some ⟨w.heap.size, 5, none⟩)] 121))) W2.heap.size (.cells #[.pointer (some ⟨w.heap.size, 5, none⟩)] 121) from kbc_new W2 _)
  have HK3 := Lib.hid (HK2.out.step hbl)
  have HOw := Lib.hid (own_below HOw.out hbl)
  clear hbl
  generalize ((W2.alloc (.cells #[.pointer (some ⟨w.heap.size, 5, none⟩)] 121))) = W3 at HP HK3 HOw ⊢
  have d0 := Csn.KbC.cell (i := 0) HP.out rfl
  have c5 := (at8_box HK3.out.box).c5
  dsimp only at c5
  go_wp2_with fail
  refine wp_loop_rounds 2 ?_
  rw [rounds_succ]
  go_wp2_with fail
  have HL3 := Lib.hid (Nat.le_trans (Nat.le_of_lt HL2.out) (show W2.heap.size ≤ W3.heap.size from Nat.le_of_lt (Csn.KbC.big HP.out)))
  refine (escape_k n x1 _ HZ.out.2.1 HX1.out).mono ?_
  rintro e w4 ⟨rfl, hb⟩
  have HKw4 := Lib.hid (HK3.out.step hb)
  have HOw := Lib.hid (own_below HOw.out hb)
  have HP := Lib.hid (Csn.KbC.step HP.out hb)
  have HLe := Lib.hid (Nat.le_trans HL3.out hb.size)
  clear hb d0 c5
  go_wp2_with (at_builtin; go_must (refine push_strG _ HOw.out (.tmp 23) (.tmp 28) x1 ?_ ?_ ?_ ?_ ?_ ?_ ?_; exact rfl; exact rfl; exact rfl; exact rfl; omega; exact HLe.out; intro v5 w5 hown5 hg5 hb5))
  rw [← scells_snoc] at hown5
  have HK5 := Lib.hid (HKw4.out.far HO.out (Nat.le_of_lt HLt.out) HLt.out hb5)
  have HOw := Lib.hid hown5
  obtain ⟨ao, cap, hv, hst⟩ := strs_own hown5 rfl
  rw [hv]
  have hst := Lib.hid hst
  clear hown5 hg5 hb5
  rw [rounds_succ]
  go_wp2_with fail
  refine (joinF_s 32 _ 4 _ [wd, fm, i, x1] _ hst.out (by decide) (by decide) HSz.out).mono ?_
  rintro e wz ⟨rfl, hb⟩
  have HBz := Lib.hid (HK5.out.low.trans (hb.mono HK5.out.low.size))
  clear hb
  go_wp2_with fail
  go_ret
  exact ⟨rfl, HBz.out⟩
set_option maxHeartbeats 8000000 in
theorem line4_s (t s r : Int) (i n a v : ByteArray) (w : World) (hz : SmG ⟨(t, s, r), 4, i, n, a, v⟩) (ho : COk w) :
    Calls Tryz.prog 42 #[chV ⟨(t, s, r), 4, i, n, a, v⟩] w fun e w' => e = .returned (.string (lineG ⟨(t, s, r), 4, i, n, a, v⟩)) ∧ Below w.heap.size w w' := by
  rw [chV_is]
  have HK := Lib.hid (bxc_new w ⟨(t, s, r), 4, i, n, a, v⟩ ho)
  rw [chB_is] at HK
  obtain ⟨z1, z2, z3, z4⟩ := hz
  dsimp only at z1 z2 z3 z4
  have HZ := Lib.hid (And.intro z1 (And.intro z2 (And.intro z3 z4)))
  clear z1 z2 z3 z4
  obtain ⟨wd, hwd⟩ : ∃ x, putW = x := ⟨_, rfl⟩
  obtain ⟨fm, hfm⟩ : ∃ x, fmtS (t, s, r) = x := ⟨_, rfl⟩
  have HWd := Lib.hid hwd
  have HFm := Lib.hid hfm
  have HSt := Lib.hid (show ∀ V : World, BxC w w.heap.size ⟨(t, s, r), 4, i, n, a, v⟩ V → (fun V => V.cell? ⟨w.heap.size, 3, none⟩ = some (.int .i64 4) ∧ V.cell? ⟨0, 3, none⟩ = some (.string wd) ∧ V.cell? ⟨w.heap.size, 0, none⟩ = some (.int .i64 t) ∧ V.cell? ⟨w.heap.size, 1, none⟩ = some (.int .i64 s) ∧ V.cell? ⟨w.heap.size, 2, none⟩ = some (.int .i64 r) ∧ V.cell? ⟨w.heap.size, 4, none⟩ = some (.string i) ∧ Hid (BxC w w.heap.size ⟨(t, s, r), 4, i, n, a, v⟩ V)) V from fun V h => ⟨(at8_box h.box).c3, by rw [← hwd]; exact h.ok.op 3 (by decide), (at8_box h.box).c0, (at8_box h.box).c1, (at8_box h.box).c2, (at8_box h.box).c4, Lib.hid h⟩)
  clear hwd hfm
  obtain ⟨x1, hx1⟩ : ∃ x, escA a = x := ⟨_, rfl⟩
  obtain ⟨x2, hx2⟩ : ∃ x, escA v = x := ⟨_, rfl⟩
  have HX1 := Lib.hid hx1
  have HX2 := Lib.hid hx2
  have HLn := Lib.hid (show joinB 32 [wd, fm, i, x1, x2] = lineG ⟨(t, s, r), 4, i, n, a, v⟩ from by rw [← HWd.out, ← HFm.out, ← hx1, ← hx2]; rfl)
  have HSz := Lib.hid (show ∀ q ∈ [wd, fm, i, x1, x2], q.size ≤ 1000000000 from fun q hq => by
    simp only [List.mem_cons, List.not_mem_nil, or_false] at hq
    rcases hq with rfl | rfl | rfl | rfl | rfl
    · rw [← HWd.out]; exact Nat.le_trans (word_size 4) (by omega)
    · rw [← HFm.out]; exact Nat.le_trans (fmt_size _) (by omega)
    · exact Nat.le_trans HZ.out.1 (by omega)
    · rw [← hx1]; exact Nat.le_trans (esc_size _ HZ.out.2.2.1) (by omega)
    · rw [← hx2]; exact Nat.le_trans (esc_size _ HZ.out.2.2.2) (by omega))
  clear hx1 hx2
  rw [← HLn.out]
  go_enter Tryz.func42, Tryz.ntmps42
  go_wp2_with fail
  generalize w.alloc (.cells #[.int .i64 t, .int .i64 s, .int .i64 r, .int .i64 4, .string i, .string n, .string a, .string v] 26) = W0 at HK ⊢
  have S0 := HSt.out _ HK.out.drew
  refine wp_region_held_drew (S := fun V => V.cell? ⟨w.heap.size, 3, none⟩ = some (.int .i64 4) ∧ V.cell? ⟨0, 3, none⟩ = some (.string wd) ∧ V.cell? ⟨w.heap.size, 0, none⟩ = some (.int .i64 t) ∧ V.cell? ⟨w.heap.size, 1, none⟩ = some (.int .i64 s) ∧ V.cell? ⟨w.heap.size, 2, none⟩ = some (.int .i64 r) ∧ V.cell? ⟨w.heap.size, 4, none⟩ = some (.string i) ∧ Hid (BxC w w.heap.size ⟨(t, s, r), 4, i, n, a, v⟩ V)) (by kernel_rfl) (S0) (fun hS => ?_)
  refine wpAnyH_take (i := 0) (oi := { dst := some 6, op := _, type := _, pos := _, after := _, guard := _ }) (v := ?_) rfl (by kernel_rfl) (by kernel_rfl) (by kernel_rfl) (fun _ _ _ h => h) (Or.inl ⟨by rfl, ?_⟩) (by assumption) ?_
  rotate_left
  · intro w hSw
    try dsimp only at hSw
    go_simp
    try with_reducible rfl
  try simp only [Act.put, List.setIfInBounds_toArray, List.set_cons_zero, List.set_cons_succ]
  refine wpAnyH_take (i := 1) (oi := { dst := some 7, op := _, type := _, pos := _, after := _, guard := _ }) (v := ?_) rfl (by kernel_rfl) (by kernel_rfl) (by kernel_rfl) (fun _ _ _ h => h) (Or.inl ⟨by rfl, ?_⟩) (by assumption) ?_
  rotate_left
  · intro w hSw
    try dsimp only at hSw
    go_simp
    try with_reducible rfl
  try simp only [Act.put, List.setIfInBounds_toArray, List.set_cons_zero, List.set_cons_succ]
  refine wpAnyH_take (i := 2) (oi := { dst := some 8, op := _, type := _, pos := _, after := _, guard := _ }) (v := ?_) rfl (by kernel_rfl) (by kernel_rfl) (by kernel_rfl) (fun _ _ _ h => h) (Or.inl ⟨by rfl, ?_⟩) (by assumption) ?_
  rotate_left
  · intro w hSw
    try dsimp only at hSw
    go_simp
    rw [show IntKind.i64.wrap 3 = 3 by decide]
    try with_reducible rfl
  try simp only [Act.put, List.setIfInBounds_toArray, List.set_cons_zero, List.set_cons_succ]
  refine wpAnyH_take (i := 3) (oi := { dst := some 9, op := _, type := _, pos := _, after := _, guard := _ }) (v := ?_) rfl (by kernel_rfl) (by kernel_rfl) (by kernel_rfl) (fun _ _ _ h => h) (Or.inl ⟨by rfl, ?_⟩) (by assumption) ?_
  rotate_left
  · intro w hSw
    try dsimp only at hSw
    go_simp
    try with_reducible rfl
  try simp only [Act.put, List.setIfInBounds_toArray, List.set_cons_zero, List.set_cons_succ]
  refine wpAnyH_take (i := 4) (oi := { dst := some 10, op := _, type := _, pos := _, after := _, guard := _ }) (v := ?_) rfl (by kernel_rfl) (by kernel_rfl) (by kernel_rfl) (fun _ _ _ h => h) (Or.inl ⟨by rfl, ?_⟩) (by assumption) ?_
  rotate_left
  · intro w hSw
    try dsimp only at hSw
    go_simp
    try with_reducible rfl
  try simp only [Act.put, List.setIfInBounds_toArray, List.set_cons_zero, List.set_cons_succ]
  refine wpAnyH_take (i := 5) (oi := { dst := some 11, op := _, type := _, pos := _, after := _, guard := _ }) (v := ?_) rfl (by kernel_rfl) (by kernel_rfl) (by kernel_rfl) (fun _ _ _ h => h) (Or.inl ⟨by rfl, ?_⟩) (by assumption) ?_
  rotate_left
  · intro w hSw
    try dsimp only at hSw
    go_simp
    try with_reducible rfl
  try simp only [Act.put, List.setIfInBounds_toArray, List.set_cons_zero, List.set_cons_succ]
  refine wpAnyH_take (i := 6) (oi := { dst := some 12, op := _, type := _, pos := _, after := _, guard := _ }) (v := ?_) rfl (by kernel_rfl) (by kernel_rfl) (by kernel_rfl) (fun _ _ _ h => h) (Or.inl ⟨by rfl, ?_⟩) (by assumption) ?_
  rotate_left
  · intro w hSw
    try dsimp only at hSw
    go_simp
    try with_reducible rfl
  try simp only [Act.put, List.setIfInBounds_toArray, List.set_cons_zero, List.set_cons_succ]
  refine wpAnyH_take (i := 8) (oi := { dst := some 14, op := _, type := _, pos := _, after := _, guard := _ }) (v := ?_) rfl (by kernel_rfl) (by kernel_rfl) (by kernel_rfl) (fun _ _ _ h => h) (Or.inl ⟨by rfl, ?_⟩) (by assumption) ?_
  rotate_left
  · intro w hSw
    try dsimp only at hSw
    go_simp
    try with_reducible rfl
  try simp only [Act.put, List.setIfInBounds_toArray, List.set_cons_zero, List.set_cons_succ]
  refine wpAnyH_take (i := 9) (oi := { dst := some 15, op := _, type := _, pos := _, after := _, guard := _ }) (v := ?_) rfl (by kernel_rfl) (by kernel_rfl) (by kernel_rfl) (fun _ _ _ h => h) (Or.inl ⟨by rfl, ?_⟩) (by assumption) ?_
  rotate_left
  · intro w hSw
    try dsimp only at hSw
    go_simp
    try with_reducible rfl
  try simp only [Act.put, List.setIfInBounds_toArray, List.set_cons_zero, List.set_cons_succ]
  refine wpAnyH_ready (rs := [7]) (by kernel_rfl) (by simp) ?_
  refine AllReadyH.cons rfl (fun K hK => ?_) AllReadyH.nil
  go_simp
  refine (Csn.format_s (t, s, r) _ hS.2.2.2.2.2.2.out.ok.tz).mono ?_
  rintro e v1 ⟨rfl, hb⟩
  rw [HFm.out]
  have HK1 := Lib.hid (hS.2.2.2.2.2.2.out.step hb)
  clear hb
  go_wp2_with fail
  refine hK.out _ _ ?_ (fun hHeld => ?_)
  · exact HSt.out _ HK1.out
  clear hK K
  try simp only [Act.put, List.setIfInBounds_toArray, List.set_cons_zero, List.set_cons_succ]
  refine wpAnyH_ready (rs := [10]) (by kernel_rfl) (by simp) ?_
  refine AllReadyH.cons rfl (fun K hK => ?_) AllReadyH.nil
  go_simp
  refine hK.out _ _ ?_ (fun hHeld => ?_)
  · exact HSt.out _ (HK1.out.step (box_below _ _))
  clear hK K
  have HOw := Lib.hid (own3 v1 wd fm i)
  have HK2 := Lib.hid (HK1.out.step (box_below v1 (.cells #[.string wd, .string fm, .string i] 9)))
  try simp only [Act.put, List.setIfInBounds_toArray, List.set_cons_zero, List.set_cons_succ]
  refine wpAnyH_take (i := 11) (oi := { dst := some 3, op := _, type := _, pos := _, after := _, guard := _ }) (v := ?_) rfl (by kernel_rfl) (by kernel_rfl) (by kernel_rfl) (fun _ _ _ h => h) (Or.inl ⟨by rfl, ?_⟩) (by assumption) ?_
  rotate_left
  · intro w hSw
    try dsimp only at hSw
    go_simp
    try with_reducible rfl
  try simp only [Act.put, List.setIfInBounds_toArray, List.set_cons_zero, List.set_cons_succ]
  refine wpAnyH_done (by kernel_rfl) ?_ _
  clear hHeld S0 hS HSt
  go_wp2_with fail
  generalize v1.alloc (.cells #[.string wd, .string fm, .string i] 9) = W2 at HOw HK2 ⊢
  have HO := Lib.hid ho
  have HLt := Lib.hid (show w.heap.size < v1.heap.size from Csn.KbC.big HK1.out.box)
  have HL2 := Lib.hid (show v1.heap.size < W2.heap.size from by
    obtain ⟨g, hg⟩ : ∃ g, g = v1.heap.size := ⟨_, rfl⟩
    exact (HOw.out.lt v1.heap.size rfl).2)
  clear ho
  refine (fieldsV_s _ 4 W2 (at8_box HK2.out.box).c3 rfl).mono ?_
  rintro e w3 ⟨q, rfl, rfl⟩
  have hbl : Below W2.heap.size W2 ((W2.alloc (.cells #[.pointer (some ⟨w.heap.size, 6, none⟩), .pointer (some ⟨w.heap.size, 7, none⟩)] 121)).drewN q) := ((box_below W2 (.cells #[.pointer (some ⟨w.heap.size, 6, none⟩), .pointer (some ⟨w.heap.size, 7, none⟩)] 121)).trans ⟨rfl, rfl, rfl, Nat.le_refl _, fun _ _ => rfl⟩)
  have HP := Lib.hid (show KbC ((W2.alloc (.cells #[.pointer (some ⟨w.heap.size, 6, none⟩), .pointer (some ⟨w.heap.size, 7, none⟩)] 121)).drewN q) W2.heap.size (.cells #[.pointer (some ⟨w.heap.size, 6, none⟩), .pointer (some ⟨w.heap.size, 7, none⟩)] 121) from kbc_new W2 _)
  have HK3 := Lib.hid (HK2.out.step hbl)
  have HOw := Lib.hid (own_below HOw.out hbl)
  clear hbl
  generalize ((W2.alloc (.cells #[.pointer (some ⟨w.heap.size, 6, none⟩), .pointer (some ⟨w.heap.size, 7, none⟩)] 121)).drewN q) = W3 at HP HK3 HOw ⊢
  have d0 := Csn.KbC.cell (i := 0) HP.out rfl
  have c6 := (at8_box HK3.out.box).c6
  dsimp only at c6
  go_wp2_with fail
  refine wp_loop_rounds 3 ?_
  rw [rounds_succ]
  go_wp2_with fail
  have HL3 := Lib.hid (Nat.le_trans (Nat.le_of_lt HL2.out) (show W2.heap.size ≤ W3.heap.size from Nat.le_of_lt (Csn.KbC.big HP.out)))
  refine (escape_k a x1 _ HZ.out.2.2.1 HX1.out).mono ?_
  rintro e w4 ⟨rfl, hb⟩
  have HKw4 := Lib.hid (HK3.out.step hb)
  have HOw := Lib.hid (own_below HOw.out hb)
  have HP := Lib.hid (Csn.KbC.step HP.out hb)
  have HLe := Lib.hid (Nat.le_trans HL3.out hb.size)
  clear hb d0 c6
  go_wp2_with (at_builtin; go_must (refine push_strG _ HOw.out (.tmp 23) (.tmp 28) x1 ?_ ?_ ?_ ?_ ?_ ?_ ?_; exact rfl; exact rfl; exact rfl; exact rfl; omega; exact HLe.out; intro v5 w5 hown5 hg5 hb5))
  rw [← scells_snoc] at hown5
  have HK5 := Lib.hid (HKw4.out.far HO.out (Nat.le_of_lt HLt.out) HLt.out hb5)
  have HOw := Lib.hid hown5
  have HP := Lib.hid (kbc_grown (Csn.KbC.step HP.out (box_below _ (.cells #[.string x1] 9))) hg5 (by intro e; have e : W2.heap.size = v1.heap.size := Option.some.inj e; have := HL2.out; omega))
  have HL5 := Lib.hid (Nat.le_trans HLe.out hb5.size)
  clear hown5 hg5 hb5
  have d1 := Csn.KbC.cell (i := 1) HP.out rfl
  have c7 := (at8_box HK5.out.box).c7
  dsimp only at c7
  rw [rounds_succ]
  go_wp2_with fail
  refine (escape_k v x2 _ HZ.out.2.2.2 HX2.out).mono ?_
  rintro e w6 ⟨rfl, hb⟩
  have HKw6 := Lib.hid (HK5.out.step hb)
  have HOw := Lib.hid (own_below HOw.out hb)
  have HP := Lib.hid (Csn.KbC.step HP.out hb)
  have HLe := Lib.hid (Nat.le_trans HL5.out hb.size)
  clear hb d1 c7
  go_wp2_with (at_builtin; go_must (refine push_strG _ HOw.out (.tmp 23) (.tmp 28) x2 ?_ ?_ ?_ ?_ ?_ ?_ ?_; exact rfl; exact rfl; exact rfl; exact rfl; omega; exact HLe.out; intro v7 w7 hown7 hg7 hb7))
  rw [← scells_snoc] at hown7
  have HK7 := Lib.hid (HKw6.out.far HO.out (Nat.le_of_lt HLt.out) HLt.out hb7)
  obtain ⟨ao, cap, hv, hst⟩ := strs_own hown7 rfl
  rw [hv]
  have hst := Lib.hid hst
  clear hown7 hg7 hb7
  rw [rounds_succ]
  go_wp2_with fail
  refine (joinF_s 32 _ 5 _ [wd, fm, i, x1, x2] _ hst.out (by decide) (by decide) HSz.out).mono ?_
  rintro e wz ⟨rfl, hb⟩
  have HBz := Lib.hid (HK7.out.low.trans (hb.mono HK7.out.low.size))
  clear hb
  go_wp2_with fail
  go_ret
  exact ⟨rfl, HBz.out⟩
set_option maxHeartbeats 8000000 in
theorem line5_s (t s r : Int) (i n a v : ByteArray) (w : World) (hz : SmG ⟨(t, s, r), 5, i, n, a, v⟩) (ho : COk w) :
    Calls Tryz.prog 42 #[chV ⟨(t, s, r), 5, i, n, a, v⟩] w fun e w' => e = .returned (.string (lineG ⟨(t, s, r), 5, i, n, a, v⟩)) ∧ Below w.heap.size w w' := by
  rw [chV_is]
  have HK := Lib.hid (bxc_new w ⟨(t, s, r), 5, i, n, a, v⟩ ho)
  rw [chB_is] at HK
  obtain ⟨z1, z2, z3, z4⟩ := hz
  dsimp only at z1 z2 z3 z4
  have HZ := Lib.hid (And.intro z1 (And.intro z2 (And.intro z3 z4)))
  clear z1 z2 z3 z4
  obtain ⟨wd, hwd⟩ : ∃ x, dropW = x := ⟨_, rfl⟩
  obtain ⟨fm, hfm⟩ : ∃ x, fmtS (t, s, r) = x := ⟨_, rfl⟩
  have HWd := Lib.hid hwd
  have HFm := Lib.hid hfm
  have HSt := Lib.hid (show ∀ V : World, BxC w w.heap.size ⟨(t, s, r), 5, i, n, a, v⟩ V → (fun V => V.cell? ⟨w.heap.size, 3, none⟩ = some (.int .i64 5) ∧ V.cell? ⟨0, 4, none⟩ = some (.string wd) ∧ V.cell? ⟨w.heap.size, 0, none⟩ = some (.int .i64 t) ∧ V.cell? ⟨w.heap.size, 1, none⟩ = some (.int .i64 s) ∧ V.cell? ⟨w.heap.size, 2, none⟩ = some (.int .i64 r) ∧ V.cell? ⟨w.heap.size, 4, none⟩ = some (.string i) ∧ Hid (BxC w w.heap.size ⟨(t, s, r), 5, i, n, a, v⟩ V)) V from fun V h => ⟨(at8_box h.box).c3, by rw [← hwd]; exact h.ok.op 4 (by decide), (at8_box h.box).c0, (at8_box h.box).c1, (at8_box h.box).c2, (at8_box h.box).c4, Lib.hid h⟩)
  clear hwd hfm
  obtain ⟨x1, hx1⟩ : ∃ x, escA a = x := ⟨_, rfl⟩
  obtain ⟨x2, hx2⟩ : ∃ x, escA v = x := ⟨_, rfl⟩
  have HX1 := Lib.hid hx1
  have HX2 := Lib.hid hx2
  have HLn := Lib.hid (show joinB 32 [wd, fm, i, x1, x2] = lineG ⟨(t, s, r), 5, i, n, a, v⟩ from by rw [← HWd.out, ← HFm.out, ← hx1, ← hx2]; rfl)
  have HSz := Lib.hid (show ∀ q ∈ [wd, fm, i, x1, x2], q.size ≤ 1000000000 from fun q hq => by
    simp only [List.mem_cons, List.not_mem_nil, or_false] at hq
    rcases hq with rfl | rfl | rfl | rfl | rfl
    · rw [← HWd.out]; exact Nat.le_trans (word_size 5) (by omega)
    · rw [← HFm.out]; exact Nat.le_trans (fmt_size _) (by omega)
    · exact Nat.le_trans HZ.out.1 (by omega)
    · rw [← hx1]; exact Nat.le_trans (esc_size _ HZ.out.2.2.1) (by omega)
    · rw [← hx2]; exact Nat.le_trans (esc_size _ HZ.out.2.2.2) (by omega))
  clear hx1 hx2
  rw [← HLn.out]
  go_enter Tryz.func42, Tryz.ntmps42
  go_wp2_with fail
  generalize w.alloc (.cells #[.int .i64 t, .int .i64 s, .int .i64 r, .int .i64 5, .string i, .string n, .string a, .string v] 26) = W0 at HK ⊢
  have S0 := HSt.out _ HK.out.drew
  refine wp_region_held_drew (S := fun V => V.cell? ⟨w.heap.size, 3, none⟩ = some (.int .i64 5) ∧ V.cell? ⟨0, 4, none⟩ = some (.string wd) ∧ V.cell? ⟨w.heap.size, 0, none⟩ = some (.int .i64 t) ∧ V.cell? ⟨w.heap.size, 1, none⟩ = some (.int .i64 s) ∧ V.cell? ⟨w.heap.size, 2, none⟩ = some (.int .i64 r) ∧ V.cell? ⟨w.heap.size, 4, none⟩ = some (.string i) ∧ Hid (BxC w w.heap.size ⟨(t, s, r), 5, i, n, a, v⟩ V)) (by kernel_rfl) (S0) (fun hS => ?_)
  refine wpAnyH_take (i := 0) (oi := { dst := some 6, op := _, type := _, pos := _, after := _, guard := _ }) (v := ?_) rfl (by kernel_rfl) (by kernel_rfl) (by kernel_rfl) (fun _ _ _ h => h) (Or.inl ⟨by rfl, ?_⟩) (by assumption) ?_
  rotate_left
  · intro w hSw
    try dsimp only at hSw
    go_simp
    try with_reducible rfl
  try simp only [Act.put, List.setIfInBounds_toArray, List.set_cons_zero, List.set_cons_succ]
  refine wpAnyH_take (i := 1) (oi := { dst := some 7, op := _, type := _, pos := _, after := _, guard := _ }) (v := ?_) rfl (by kernel_rfl) (by kernel_rfl) (by kernel_rfl) (fun _ _ _ h => h) (Or.inl ⟨by rfl, ?_⟩) (by assumption) ?_
  rotate_left
  · intro w hSw
    try dsimp only at hSw
    go_simp
    try with_reducible rfl
  try simp only [Act.put, List.setIfInBounds_toArray, List.set_cons_zero, List.set_cons_succ]
  refine wpAnyH_take (i := 2) (oi := { dst := some 8, op := _, type := _, pos := _, after := _, guard := _ }) (v := ?_) rfl (by kernel_rfl) (by kernel_rfl) (by kernel_rfl) (fun _ _ _ h => h) (Or.inl ⟨by rfl, ?_⟩) (by assumption) ?_
  rotate_left
  · intro w hSw
    try dsimp only at hSw
    go_simp
    rw [show IntKind.i64.wrap 4 = 4 by decide]
    try with_reducible rfl
  try simp only [Act.put, List.setIfInBounds_toArray, List.set_cons_zero, List.set_cons_succ]
  refine wpAnyH_take (i := 3) (oi := { dst := some 9, op := _, type := _, pos := _, after := _, guard := _ }) (v := ?_) rfl (by kernel_rfl) (by kernel_rfl) (by kernel_rfl) (fun _ _ _ h => h) (Or.inl ⟨by rfl, ?_⟩) (by assumption) ?_
  rotate_left
  · intro w hSw
    try dsimp only at hSw
    go_simp
    try with_reducible rfl
  try simp only [Act.put, List.setIfInBounds_toArray, List.set_cons_zero, List.set_cons_succ]
  refine wpAnyH_take (i := 4) (oi := { dst := some 10, op := _, type := _, pos := _, after := _, guard := _ }) (v := ?_) rfl (by kernel_rfl) (by kernel_rfl) (by kernel_rfl) (fun _ _ _ h => h) (Or.inl ⟨by rfl, ?_⟩) (by assumption) ?_
  rotate_left
  · intro w hSw
    try dsimp only at hSw
    go_simp
    try with_reducible rfl
  try simp only [Act.put, List.setIfInBounds_toArray, List.set_cons_zero, List.set_cons_succ]
  refine wpAnyH_take (i := 5) (oi := { dst := some 11, op := _, type := _, pos := _, after := _, guard := _ }) (v := ?_) rfl (by kernel_rfl) (by kernel_rfl) (by kernel_rfl) (fun _ _ _ h => h) (Or.inl ⟨by rfl, ?_⟩) (by assumption) ?_
  rotate_left
  · intro w hSw
    try dsimp only at hSw
    go_simp
    try with_reducible rfl
  try simp only [Act.put, List.setIfInBounds_toArray, List.set_cons_zero, List.set_cons_succ]
  refine wpAnyH_take (i := 6) (oi := { dst := some 12, op := _, type := _, pos := _, after := _, guard := _ }) (v := ?_) rfl (by kernel_rfl) (by kernel_rfl) (by kernel_rfl) (fun _ _ _ h => h) (Or.inl ⟨by rfl, ?_⟩) (by assumption) ?_
  rotate_left
  · intro w hSw
    try dsimp only at hSw
    go_simp
    try with_reducible rfl
  try simp only [Act.put, List.setIfInBounds_toArray, List.set_cons_zero, List.set_cons_succ]
  refine wpAnyH_take (i := 8) (oi := { dst := some 14, op := _, type := _, pos := _, after := _, guard := _ }) (v := ?_) rfl (by kernel_rfl) (by kernel_rfl) (by kernel_rfl) (fun _ _ _ h => h) (Or.inl ⟨by rfl, ?_⟩) (by assumption) ?_
  rotate_left
  · intro w hSw
    try dsimp only at hSw
    go_simp
    try with_reducible rfl
  try simp only [Act.put, List.setIfInBounds_toArray, List.set_cons_zero, List.set_cons_succ]
  refine wpAnyH_take (i := 9) (oi := { dst := some 15, op := _, type := _, pos := _, after := _, guard := _ }) (v := ?_) rfl (by kernel_rfl) (by kernel_rfl) (by kernel_rfl) (fun _ _ _ h => h) (Or.inl ⟨by rfl, ?_⟩) (by assumption) ?_
  rotate_left
  · intro w hSw
    try dsimp only at hSw
    go_simp
    try with_reducible rfl
  try simp only [Act.put, List.setIfInBounds_toArray, List.set_cons_zero, List.set_cons_succ]
  refine wpAnyH_ready (rs := [7]) (by kernel_rfl) (by simp) ?_
  refine AllReadyH.cons rfl (fun K hK => ?_) AllReadyH.nil
  go_simp
  refine (Csn.format_s (t, s, r) _ hS.2.2.2.2.2.2.out.ok.tz).mono ?_
  rintro e v1 ⟨rfl, hb⟩
  rw [HFm.out]
  have HK1 := Lib.hid (hS.2.2.2.2.2.2.out.step hb)
  clear hb
  go_wp2_with fail
  refine hK.out _ _ ?_ (fun hHeld => ?_)
  · exact HSt.out _ HK1.out
  clear hK K
  try simp only [Act.put, List.setIfInBounds_toArray, List.set_cons_zero, List.set_cons_succ]
  refine wpAnyH_ready (rs := [10]) (by kernel_rfl) (by simp) ?_
  refine AllReadyH.cons rfl (fun K hK => ?_) AllReadyH.nil
  go_simp
  refine hK.out _ _ ?_ (fun hHeld => ?_)
  · exact HSt.out _ (HK1.out.step (box_below _ _))
  clear hK K
  have HOw := Lib.hid (own3 v1 wd fm i)
  have HK2 := Lib.hid (HK1.out.step (box_below v1 (.cells #[.string wd, .string fm, .string i] 9)))
  try simp only [Act.put, List.setIfInBounds_toArray, List.set_cons_zero, List.set_cons_succ]
  refine wpAnyH_take (i := 11) (oi := { dst := some 3, op := _, type := _, pos := _, after := _, guard := _ }) (v := ?_) rfl (by kernel_rfl) (by kernel_rfl) (by kernel_rfl) (fun _ _ _ h => h) (Or.inl ⟨by rfl, ?_⟩) (by assumption) ?_
  rotate_left
  · intro w hSw
    try dsimp only at hSw
    go_simp
    try with_reducible rfl
  try simp only [Act.put, List.setIfInBounds_toArray, List.set_cons_zero, List.set_cons_succ]
  refine wpAnyH_done (by kernel_rfl) ?_ _
  clear hHeld S0 hS HSt
  go_wp2_with fail
  generalize v1.alloc (.cells #[.string wd, .string fm, .string i] 9) = W2 at HOw HK2 ⊢
  have HO := Lib.hid ho
  have HLt := Lib.hid (show w.heap.size < v1.heap.size from Csn.KbC.big HK1.out.box)
  have HL2 := Lib.hid (show v1.heap.size < W2.heap.size from by
    obtain ⟨g, hg⟩ : ∃ g, g = v1.heap.size := ⟨_, rfl⟩
    exact (HOw.out.lt v1.heap.size rfl).2)
  clear ho
  refine (fieldsV_s _ 5 W2 (at8_box HK2.out.box).c3 rfl).mono ?_
  rintro e w3 ⟨q, rfl, rfl⟩
  have hbl : Below W2.heap.size W2 ((W2.alloc (.cells #[.pointer (some ⟨w.heap.size, 6, none⟩), .pointer (some ⟨w.heap.size, 7, none⟩)] 121)).drewN q) := ((box_below W2 (.cells #[.pointer (some ⟨w.heap.size, 6, none⟩), .pointer (some ⟨w.heap.size, 7, none⟩)] 121)).trans ⟨rfl, rfl, rfl, Nat.le_refl _, fun _ _ => rfl⟩)
  have HP := Lib.hid (show KbC ((W2.alloc (.cells #[.pointer (some ⟨w.heap.size, 6, none⟩), .pointer (some ⟨w.heap.size, 7, none⟩)] 121)).drewN q) W2.heap.size (.cells #[.pointer (some ⟨w.heap.size, 6, none⟩), .pointer (some ⟨w.heap.size, 7, none⟩)] 121) from kbc_new W2 _)
  have HK3 := Lib.hid (HK2.out.step hbl)
  have HOw := Lib.hid (own_below HOw.out hbl)
  clear hbl
  generalize ((W2.alloc (.cells #[.pointer (some ⟨w.heap.size, 6, none⟩), .pointer (some ⟨w.heap.size, 7, none⟩)] 121)).drewN q) = W3 at HP HK3 HOw ⊢
  have d0 := Csn.KbC.cell (i := 0) HP.out rfl
  have c6 := (at8_box HK3.out.box).c6
  dsimp only at c6
  go_wp2_with fail
  refine wp_loop_rounds 3 ?_
  rw [rounds_succ]
  go_wp2_with fail
  have HL3 := Lib.hid (Nat.le_trans (Nat.le_of_lt HL2.out) (show W2.heap.size ≤ W3.heap.size from Nat.le_of_lt (Csn.KbC.big HP.out)))
  refine (escape_k a x1 _ HZ.out.2.2.1 HX1.out).mono ?_
  rintro e w4 ⟨rfl, hb⟩
  have HKw4 := Lib.hid (HK3.out.step hb)
  have HOw := Lib.hid (own_below HOw.out hb)
  have HP := Lib.hid (Csn.KbC.step HP.out hb)
  have HLe := Lib.hid (Nat.le_trans HL3.out hb.size)
  clear hb d0 c6
  go_wp2_with (at_builtin; go_must (refine push_strG _ HOw.out (.tmp 23) (.tmp 28) x1 ?_ ?_ ?_ ?_ ?_ ?_ ?_; exact rfl; exact rfl; exact rfl; exact rfl; omega; exact HLe.out; intro v5 w5 hown5 hg5 hb5))
  rw [← scells_snoc] at hown5
  have HK5 := Lib.hid (HKw4.out.far HO.out (Nat.le_of_lt HLt.out) HLt.out hb5)
  have HOw := Lib.hid hown5
  have HP := Lib.hid (kbc_grown (Csn.KbC.step HP.out (box_below _ (.cells #[.string x1] 9))) hg5 (by intro e; have e : W2.heap.size = v1.heap.size := Option.some.inj e; have := HL2.out; omega))
  have HL5 := Lib.hid (Nat.le_trans HLe.out hb5.size)
  clear hown5 hg5 hb5
  have d1 := Csn.KbC.cell (i := 1) HP.out rfl
  have c7 := (at8_box HK5.out.box).c7
  dsimp only at c7
  rw [rounds_succ]
  go_wp2_with fail
  refine (escape_k v x2 _ HZ.out.2.2.2 HX2.out).mono ?_
  rintro e w6 ⟨rfl, hb⟩
  have HKw6 := Lib.hid (HK5.out.step hb)
  have HOw := Lib.hid (own_below HOw.out hb)
  have HP := Lib.hid (Csn.KbC.step HP.out hb)
  have HLe := Lib.hid (Nat.le_trans HL5.out hb.size)
  clear hb d1 c7
  go_wp2_with (at_builtin; go_must (refine push_strG _ HOw.out (.tmp 23) (.tmp 28) x2 ?_ ?_ ?_ ?_ ?_ ?_ ?_; exact rfl; exact rfl; exact rfl; exact rfl; omega; exact HLe.out; intro v7 w7 hown7 hg7 hb7))
  rw [← scells_snoc] at hown7
  have HK7 := Lib.hid (HKw6.out.far HO.out (Nat.le_of_lt HLt.out) HLt.out hb7)
  obtain ⟨ao, cap, hv, hst⟩ := strs_own hown7 rfl
  rw [hv]
  have hst := Lib.hid hst
  clear hown7 hg7 hb7
  rw [rounds_succ]
  go_wp2_with fail
  refine (joinF_s 32 _ 5 _ [wd, fm, i, x1, x2] _ hst.out (by decide) (by decide) HSz.out).mono ?_
  rintro e wz ⟨rfl, hb⟩
  have HBz := Lib.hid (HK7.out.low.trans (hb.mono HK7.out.low.size))
  clear hb
  go_wp2_with fail
  go_ret
  exact ⟨rfl, HBz.out⟩
theorem line_s (g : Chg) (w : World) (hz : SmG g) (ho : COk w) (h1 : 1 ≤ g.op) (h5 : g.op ≤ 5) :
    Calls Tryz.prog 42 #[chV g] w fun e w' => e = .returned (.string (lineG g)) ∧ Below w.heap.size w w' := by
  obtain ⟨⟨t, s, r⟩, o, i, n, a, v⟩ := g
  dsimp only at h1 h5
  rcases (show o = 1 ∨ o = 2 ∨ o = 3 ∨ o = 4 ∨ o = 5 by omega) with rfl | rfl | rfl | rfl | rfl
  · exact line1_s t s r i n a v w hz ho
  · exact line2_s t s r i n a v w hz ho
  · exact line3_s t s r i n a v w hz ho
  · exact line4_s t s r i n a v w hz ho
  · exact line5_s t s r i n a v w hz ho
end Go.Proofs.YtbkignlbcneddaaGreatDoor
end
