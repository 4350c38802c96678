/-
  Contract of csn.Format. Condition: one cell of the table of math/bits as the card says.
-/
import Derived.Test.YtcnhkoijphfibaaDoorCsnF3
set_option maxRecDepth 100000
set_option linter.unusedVariables false
set_option linter.unusedSimpArgs false
set_option linter.unnecessarySimpa false
namespace Go.Proofs.YtcnhkoijphfibaaDoor
open Go.RowKit Go.PlainAid

theorem fmtS_is {c : Cn} (h : Vld c) : fmtS c = hexS15 11 c.1.toNat ++ ⟨#[45]⟩ ++ hexS15 8 c.2.1.toNat ++ ⟨#[45]⟩ ++ hexS15 1 c.2.2.toNat := by
  unfold fmtS
  rw [if_pos h]
  unfold fmtL hexS15
  apply ByteArray.ext
  rw [ByteArray.data_append, ByteArray.data_append, ByteArray.data_append, ByteArray.data_append]
  simp
theorem dig_k (n k : Nat) (v : Int) (x : ByteArray) (w : World) (hv : v = (n : Int)) (hn : n < 16 ^ k) (hk : 1 ≤ k) (hk2 : k ≤ 15) (ho : TzOk w) (hx : hexS15 k n = x) :
    Calls Tryd.prog 44 #[.int .i64 v, .int .i64 k] w fun e w' => e = .returned (.string x) ∧ Below w.heap.size w w' := by subst hv; subst hx; exact digits_s n k w hn hk hk2 ho
/-- the box's cells, while the world grows -/
def BxC (w : World) (b : Nat) (c : Cn) (V : World) : Prop := V.cell? ⟨b, 0, none⟩ = some (.int .i64 c.1) ∧ V.cell? ⟨b, 1, none⟩ = some (.int .i64 c.2.1) ∧ V.cell? ⟨b, 2, none⟩ = some (.int .i64 c.2.2) ∧ b < V.heap.size ∧ Below w.heap.size w V
theorem BxC.step {w V X : World} {b : Nat} {c : Cn} (h : BxC w b c V) (hb : Below V.heap.size V X) (hw : w.heap.size ≤ V.heap.size) : BxC w b c X := by
  obtain ⟨h0, h1, h2, h3, h4⟩ := h
  exact ⟨(hb.cell (p := ⟨b, 0, none⟩) h3).trans h0, (hb.cell (p := ⟨b, 1, none⟩) h3).trans h1, (hb.cell (p := ⟨b, 2, none⟩) h3).trans h2, Nat.lt_of_lt_of_le h3 hb.size, h4.trans (hb.mono hw)⟩
set_option maxHeartbeats 8000000 in
theorem format_s (c : Cn) (w : World) (ho : TzOk w) :
    Calls Tryd.prog 18 #[cnV c] w fun e w' => e = .returned (.string (fmtS c)) ∧ Below w.heap.size w w' := by
  obtain ⟨t, s, r⟩ := c
  show Calls _ _ #[.agg #[.int .i64 t, .int .i64 s, .int .i64 r]] w _
  have hv1 := vld_k (t, s, r)
  dsimp only at hv1
  cases hv : vldC (t, s, r)
  · have HF := Lib.hid (show fmtS (t, s, r) = ⟨#[]⟩ from if_neg fun k => by rw [(vldC_iff _).2 k] at hv; cases hv)
    rw [HF.out]
    go_enter Tryd.func18, Tryd.ntmps18
    go_wp2_with (go_at_call 12; refine (hv1 false _ hv).mono ?_; rintro e w' ⟨rfl, rfl⟩)
    go_ret
    exact ⟨rfl, below_allocs [_, _] _ _ _ (Below.refl _ _) (Nat.le_refl _)⟩
  · have hV := (vldC_iff _).1 hv
    have HF := Lib.hid (fmtS_is hV)
    unfold Vld at hV
    dsimp only at hV HF
    obtain ⟨v0, v1, v2, v3, v4, v5⟩ := hV
    obtain ⟨x, hx⟩ : ∃ x, hexS15 11 t.toNat = x := ⟨_, rfl⟩
    obtain ⟨y, hy⟩ : ∃ x, hexS15 8 s.toNat = x := ⟨_, rfl⟩
    obtain ⟨z, hz⟩ : ∃ x, hexS15 1 r.toNat = x := ⟨_, rfl⟩
    rw [hx, hy, hz] at HF
    have p11 : (16 : Nat) ^ 11 = 17592186044416 := by decide
    have p8 : (16 : Nat) ^ 8 = 4294967296 := by decide
    have p1 : (16 : Nat) ^ 1 = 16 := by decide
    have sx : x.size = 11 := by rw [← hx]; exact hexS_size _ _
    have sy : y.size = 8 := by rw [← hy]; exact hexS_size _ _
    have sz : z.size = 1 := by rw [← hz]; exact hexS_size _ _
    have D1 := Lib.hid (fun (W : World) (h : TzOk W) => dig_k t.toNat 11 t x W (by omega) (by omega) (by omega) (by omega) h hx)
    have D2 := Lib.hid (fun (W : World) (h : TzOk W) => dig_k s.toNat 8 s y W (by omega) (by omega) (by omega) (by omega) h hy)
    have D3 := Lib.hid (fun (W : World) (h : TzOk W) => dig_k r.toNat 1 r z W (by omega) (by omega) (by omega) (by omega) h hz)
    clear hx hy hz p11 p8 p1
    have s45 : (⟨#[45]⟩ : ByteArray).size = 1 := rfl
    have l1 : ¬ 9223372036854775807 < x.size + (⟨#[45]⟩ : ByteArray).size := by omega
    have z1 : (x ++ (⟨#[45]⟩ : ByteArray)).size = 12 := by rw [ByteArray.size_append]; omega
    have l2 : ¬ 9223372036854775807 < (x ++ (⟨#[45]⟩ : ByteArray)).size + y.size := by omega
    have z2 : (x ++ (⟨#[45]⟩ : ByteArray) ++ y).size = 20 := by rw [ByteArray.size_append]; omega
    have l3 : ¬ 9223372036854775807 < (x ++ (⟨#[45]⟩ : ByteArray) ++ y).size + (⟨#[45]⟩ : ByteArray).size := by omega
    have z3 : (x ++ (⟨#[45]⟩ : ByteArray) ++ y ++ (⟨#[45]⟩ : ByteArray)).size = 21 := by rw [ByteArray.size_append]; omega
    have l4 : ¬ 9223372036854775807 < (x ++ (⟨#[45]⟩ : ByteArray) ++ y ++ (⟨#[45]⟩ : ByteArray)).size + z.size := by omega
    have B0 : BxC w w.heap.size (t, s, r) ((w.alloc (cnB (t, s, r))).alloc (cnB (t, s, r))) := by
      obtain ⟨c0, c1, c2⟩ := box_cells w (t, s, r)
      exact BxC.step (V := w.alloc (cnB (t, s, r))) ⟨c0, c1, c2, box_lt _ _, box_below _ _⟩ (box_below _ _) (Nat.le_of_lt (box_lt _ _))
    unfold cnB at B0
    dsimp only at B0
    have HO := Lib.hid ho
    clear ho
    go_enter Tryd.func18, Tryd.ntmps18
    go_wp2_with (go_at_call 12; refine (hv1 true _ hv).mono ?_; rintro e w' ⟨rfl, rfl⟩)
    generalize hW0 : (w.alloc (.cells #[.int .i64 t, .int .i64 s, .int .i64 r] 23)).alloc (.cells #[.int .i64 t, .int .i64 s, .int .i64 r] 23) = W0 at B0 ⊢
    clear hW0
    have HB := Lib.hid B0
    obtain ⟨c0, c1, c2, _, _⟩ := B0
    have HSt := Lib.hid (show ∀ V X : World, BxC w w.heap.size (t, s, r) V → Below V.heap.size V X → (X.cell? ⟨w.heap.size, 0, none⟩ = some (.int .i64 t) ∧ X.cell? ⟨w.heap.size, 1, none⟩ = some (.int .i64 s) ∧ X.cell? ⟨w.heap.size, 2, none⟩ = some (.int .i64 r) ∧ Hid (BxC w w.heap.size (t, s, r) X)) from fun V X h hb => by
      have k := h.step hb (Nat.le_of_lt h.2.2.2.1)
      exact ⟨k.1, k.2.1, k.2.2.1, Lib.hid k⟩)
    have S0 := HSt.out _ _ HB.out (Below.refl _ _).drew
    clear c0 c1 c2
    refine wp_region_held_drew (S := fun V => V.cell? ⟨w.heap.size, 0, none⟩ = some (.int .i64 t) ∧ V.cell? ⟨w.heap.size, 1, none⟩ = some (.int .i64 s) ∧ V.cell? ⟨w.heap.size, 2, none⟩ = some (.int .i64 r) ∧ Hid (BxC w w.heap.size (t, s, r) V)) (by kernel_rfl) (S0) (fun hS => ?_)
    refine wpAnyH_take (i := 0) (oi := { dst := some 6, op := _, type := _, pos := _, after := _, guard := _ }) (v := ?_) rfl (by kernel_rfl) (by kernel_rfl) (by kernel_rfl) (fun _ _ _ h => h) (Or.inl ⟨by rfl, ?_⟩) (by assumption) ?_
    rotate_left
    · intro w hSw
      try dsimp only at hSw
      go_simp
      try with_reducible rfl
    try simp only [Act.put, List.setIfInBounds_toArray, List.set_cons_zero, List.set_cons_succ]
    refine wpAnyH_take (i := 1) (oi := { dst := some 7, op := _, type := _, pos := _, after := _, guard := _ }) (v := ?_) rfl (by kernel_rfl) (by kernel_rfl) (by kernel_rfl) (fun _ _ _ h => h) (Or.inl ⟨by rfl, ?_⟩) (by assumption) ?_
    rotate_left
    · intro w hSw
      try dsimp only at hSw
      go_simp
      try with_reducible rfl
    try simp only [Act.put, List.setIfInBounds_toArray, List.set_cons_zero, List.set_cons_succ]
    refine wpAnyH_take (i := 4) (oi := { dst := some 10, op := _, type := _, pos := _, after := _, guard := _ }) (v := ?_) rfl (by kernel_rfl) (by kernel_rfl) (by kernel_rfl) (fun _ _ _ h => h) (Or.inl ⟨by rfl, ?_⟩) (by assumption) ?_
    rotate_left
    · intro w hSw
      try dsimp only at hSw
      go_simp
      try with_reducible rfl
    try simp only [Act.put, List.setIfInBounds_toArray, List.set_cons_zero, List.set_cons_succ]
    refine wpAnyH_take (i := 5) (oi := { dst := some 11, op := _, type := _, pos := _, after := _, guard := _ }) (v := ?_) rfl (by kernel_rfl) (by kernel_rfl) (by kernel_rfl) (fun _ _ _ h => h) (Or.inl ⟨by rfl, ?_⟩) (by assumption) ?_
    rotate_left
    · intro w hSw
      try dsimp only at hSw
      go_simp
      try with_reducible rfl
    try simp only [Act.put, List.setIfInBounds_toArray, List.set_cons_zero, List.set_cons_succ]
    refine wpAnyH_take (i := 9) (oi := { dst := some 15, op := _, type := _, pos := _, after := _, guard := _ }) (v := ?_) rfl (by kernel_rfl) (by kernel_rfl) (by kernel_rfl) (fun _ _ _ h => h) (Or.inl ⟨by rfl, ?_⟩) (by assumption) ?_
    rotate_left
    · intro w hSw
      try dsimp only at hSw
      go_simp
      try with_reducible rfl
    try simp only [Act.put, List.setIfInBounds_toArray, List.set_cons_zero, List.set_cons_succ]
    refine wpAnyH_take (i := 10) (oi := { dst := some 16, op := _, type := _, pos := _, after := _, guard := _ }) (v := ?_) rfl (by kernel_rfl) (by kernel_rfl) (by kernel_rfl) (fun _ _ _ h => h) (Or.inl ⟨by rfl, ?_⟩) (by assumption) ?_
    rotate_left
    · intro w hSw
      try dsimp only at hSw
      go_simp
      try with_reducible rfl
    try simp only [Act.put, List.setIfInBounds_toArray, List.set_cons_zero, List.set_cons_succ]
    refine wpAnyH_ready (rs := [2]) (by kernel_rfl) (by simp) ?_
    refine AllReadyH.cons rfl (fun K hK => ?_) AllReadyH.nil
    go_simp
    refine (D1.out _ (HO.out.below hS.2.2.2.out.2.2.2.2)).mono ?_
    rintro e v1 ⟨rfl, hb⟩
    have HKp := hS.2.2.2
    go_wp2_with fail
    refine hK.out _ _ ?_ (fun hHeld => ?_)
    · exact HSt.out _ _ HKp.out hb
    clear hK K
    try simp only [Act.put, List.setIfInBounds_toArray, List.set_cons_zero, List.set_cons_succ]
    refine wpAnyH_take (i := 3) (oi := { dst := some 9, op := _, type := _, pos := _, after := _, guard := _ }) (v := ?_) rfl (by kernel_rfl) (by kernel_rfl) (by kernel_rfl) (fun _ _ _ h => h) (Or.inl ⟨by rfl, ?_⟩) (by assumption) ?_
    rotate_left
    · intro w hSw
      try dsimp only at hSw
      go_simp
      try with_reducible rfl
    try simp only [Act.put, List.setIfInBounds_toArray, List.set_cons_zero, List.set_cons_succ]
    refine wpAnyH_ready (rs := [6]) (by kernel_rfl) (by simp) ?_
    refine AllReadyH.cons rfl (fun K hK => ?_) AllReadyH.nil
    go_simp
    refine (D2.out _ (HO.out.below hHeld.2.2.2.out.2.2.2.2)).mono ?_
    rintro e v2 ⟨rfl, hb⟩
    have HKp := hHeld.2.2.2
    go_wp2_with fail
    refine hK.out _ _ ?_ (fun hHeld => ?_)
    · exact HSt.out _ _ HKp.out hb
    clear hK K
    try simp only [Act.put, List.setIfInBounds_toArray, List.set_cons_zero, List.set_cons_succ]
    refine wpAnyH_take (i := 7) (oi := { dst := some 13, op := _, type := _, pos := _, after := _, guard := _ }) (v := ?_) rfl (by kernel_rfl) (by kernel_rfl) (by kernel_rfl) (fun _ _ _ h => h) (Or.inl ⟨by rfl, ?_⟩) (by assumption) ?_
    rotate_left
    · intro w hSw
      try dsimp only at hSw
      go_simp
      try with_reducible rfl
    try simp only [Act.put, List.setIfInBounds_toArray, List.set_cons_zero, List.set_cons_succ]
    refine wpAnyH_take (i := 8) (oi := { dst := some 14, op := _, type := _, pos := _, after := _, guard := _ }) (v := ?_) rfl (by kernel_rfl) (by kernel_rfl) (by kernel_rfl) (fun _ _ _ h => h) (Or.inl ⟨by rfl, ?_⟩) (by assumption) ?_
    rotate_left
    · intro w hSw
      try dsimp only at hSw
      go_simp
      try with_reducible rfl
    try simp only [Act.put, List.setIfInBounds_toArray, List.set_cons_zero, List.set_cons_succ]
    refine wpAnyH_ready (rs := [11]) (by kernel_rfl) (by simp) ?_
    refine AllReadyH.cons rfl (fun K hK => ?_) AllReadyH.nil
    go_simp
    refine (D3.out _ (HO.out.below hHeld.2.2.2.out.2.2.2.2)).mono ?_
    rintro e v3 ⟨rfl, hb⟩
    have HKp := hHeld.2.2.2
    go_wp2_with fail
    refine hK.out _ _ ?_ (fun hHeld => ?_)
    · exact HSt.out _ _ HKp.out hb
    clear hK K
    try simp only [Act.put, List.setIfInBounds_toArray, List.set_cons_zero, List.set_cons_succ]
    refine wpAnyH_take (i := 12) (oi := { dst := some 18, op := _, type := _, pos := _, after := _, guard := _ }) (v := ?_) rfl (by kernel_rfl) (by kernel_rfl) (by kernel_rfl) (fun _ _ _ h => h) (Or.inl ⟨by rfl, ?_⟩) (by assumption) ?_
    rotate_left
    · intro w hSw
      try dsimp only at hSw
      go_simp
      try with_reducible rfl
    try simp only [Act.put, List.setIfInBounds_toArray, List.set_cons_zero, List.set_cons_succ]
    refine wpAnyH_take (i := 13) (oi := { dst := some 2, op := _, type := _, pos := _, after := _, guard := _ }) (v := ?_) rfl (by kernel_rfl) (by kernel_rfl) (by kernel_rfl) (fun _ _ _ h => h) (Or.inl ⟨by rfl, ?_⟩) (by assumption) ?_
    rotate_left
    · intro w hSw
      try dsimp only at hSw
      go_simp
      try with_reducible rfl
    try simp only [Act.put, List.setIfInBounds_toArray, List.set_cons_zero, List.set_cons_succ]
    refine wpAnyH_done (by kernel_rfl) ?_ _
    go_wp2_with fail
    go_ret
    exact ⟨by rw [HF.out]; rfl, hHeld.2.2.2.out.2.2.2.2⟩

end Go.Proofs.YtcnhkoijphfibaaDoor
