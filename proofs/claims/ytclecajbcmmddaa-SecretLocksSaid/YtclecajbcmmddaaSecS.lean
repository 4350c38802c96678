/-
  Contracts of the locks' Clear, Locked and Failures. Condition: the locks lie in memory as SecM says; names of at most 1000000000 bytes.
-/
import Derived.Test.YtclecajbcmmddaaSecO
import Derived.Deep.RegionHeld3
set_option maxRecDepth 100000
set_option maxRecDepth 100000
set_option linter.unusedVariables false
set_option linter.unusedSimpArgs false
set_option linter.unnecessarySimpa false
namespace Go.Proofs.Ytclecajbcmmddaa
open Go.RowKit Go.PlainAid

theorem wpList_drop_s {ops : Array Oper} {rest : List Oper} {o : Oper} {a : Act} {Q : Exit → Act → World → Prop} {w : World} (hg : o.guard = none) (m x : Operand) {g n : Nat} {f : ByteArray → Option Value} {t e : TypeId} (k : ByteArray)
    (hop : o.op = Op.call { callee := Callee.builtin Builtin.delete, args := #[m, x], argTypes := #[t, 9] })
    (h : SMap w g n f) (ht : Try.prog.underlying t = some (.map 9 e)) (hk : k.size ≤ maxLen) (hm : a.eval m = .map (some g)) (hx : a.eval x = .string k)
    (hK : ∀ w', SMap w' g (if (f k).isSome then n - 1 else n) (delO f k) → w.grownBy w' (some g) → wpList Try.prog ops Q rest (a.put o.dst (.tuple #[])) w') :
    wpList Try.prog ops Q (o :: rest) a w := by
  refine wpList_plain hg fun K' hK' => ?_
  obtain ⟨w', hrun, r1, r2⟩ := h.drop ht k hk o.type
  unfold Oper.wp
  simp [execOp, hop, resolve, invoke, builtin, hm, hx, hrun, Result.andThen]
  exact hK' _ _ (hK w' r1 r2)
theorem zero_rc (w : World) : (zeroValue 59).run Try.prog w = .ok (rcV (.slice none 0 0) 0) w := by rfl
/-- the user's record, or the empty one -/
def curR (A : Us) (u : ByteArray) : Rc := (usO A u).getD ([], 0)
theorem LX.cur {S : Nat → Prop} {w : World} {b g : Nat} {ρ : ByteArray → Value} {most win lock : Int} {A : Us} (h : LX w S b g ρ most win lock A) (u : ByteArray) :
    ∃ v, (usF A ρ u).getD (rcV (.slice none 0 0) 0) = rcV v (curR A u).2 ∧ IR w v (curR A u).1 ∧ RcOk (curR A u) ∧ (usO A u = none → v = .slice none 0 0) ∧ (∀ r, usO A u = some r → v = ρ u) := by
  unfold usF curR
  cases e : usO A u with
  | none => exact ⟨_, rfl, ir_nil w, rcOk_zero, fun _ => rfl, fun r k => (by cases k)⟩
  | some r => exact ⟨ρ u, rfl, h.rows u r e, h.ok.rc u r e, fun k => (by cases k), fun _ _ => rfl⟩
theorem LX.look {S : Nat → Prop} {w : World} {b g : Nat} {ρ : ByteArray → Value} {most win lock : Int} {A : Us} (h : LX w S b g ρ most win lock A) (u : ByteArray) (hu : u.size ≤ 1000000000) :
    (Instr.lookup 50 (.map (some g)) (.string u) false).run Try.prog w = .ok ((usF A ρ u).getD (rcV (.slice none 0 0) 0)) w :=
  h.map.look (e := 59) Try.underlying50 (zero_rc w) u (by unfold maxLen; omega)
theorem LX.look_ok {S : Nat → Prop} {w : World} {b g : Nat} {ρ : ByteArray → Value} {most win lock : Int} {A : Us} (h : LX w S b g ρ most win lock A) (u : ByteArray) (hu : u.size ≤ 1000000000) :
    (Instr.lookup 50 (.map (some g)) (.string u) true).run Try.prog w = .ok (.tuple #[(usF A ρ u).getD (rcV (.slice none 0 0) 0), .bool (usO A u).isSome]) w := by
  have := h.map.look_ok (e := 59) Try.underlying50 (zero_rc w) u (by unfold maxLen; omega)
  rw [this]
  unfold usF
  cases usO A u <;> rfl
set_option maxHeartbeats 4000000 in
theorem clear_s (S : Nat → Prop) (b : Nat) (most win lock : Int) (A : Us) (u : ByteArray) (w : World) (h : LK w S b most win lock A) (hu : u.size ≤ 1000000000) :
    Calls Try.prog 10 #[.pointer (some ⟨b, 0, none⟩), .string u] w fun e w' => e = .returned (.tuple #[]) ∧ LK w' S b most win lock (clearA A u) ∧ Fo S w w' := by
  obtain ⟨g, ρ, h⟩ := h
  have H := Lib.hid h
  have HM := Lib.hid (made_s b g most win lock w h.blk)
  have c4 := h.flat.2.2.2.2
  have hlen := clear_len h.ok.nod u
  have HL := Lib.hid (show (if ((usF A ρ) u).isSome then A.length - 1 else A.length) = (clearA A u).length by
    have : ((usF A ρ) u).isSome = (usO A u).isSome := by unfold usF; cases usO A u <;> rfl
    rw [this]
    split at hlen <;> split <;> first | omega | contradiction)
  clear h hlen
  go_enter Try.func10, Try.ntmps10
  go_wp2_with fail
  refine HM.out.mono ?_
  rintro e w' ⟨rfl, rfl⟩
  go_wp2_with (at_delete; refine wpList_drop_s rfl _ _ u rfl H.out.map Try.underlying50 (by unfold maxLen; omega) rfl rfl ?_; intro w1 hm hg)
  rw [HL.out] at hm
  have HD := Lib.hid (H.out.drop hm hg)
  have HF : Hid (Fo S w w1) := Lib.hid (Fo.grown hg fun i e => by injection e with e; rw [← e]; exact H.out.sg)
  clear hm hg
  go_wp2_with fail
  go_end0
  exact ⟨rfl, ⟨g, ρ, HD.out⟩, HF.out⟩
theorem locked_is (A : Us) (u : ByteArray) (now : Int) : lockedA A u now = decide (limI now < (curR A u).2) := rfl
set_option maxHeartbeats 8000000 in
theorem locked_k (S : Nat → Prop) (b : Nat) (most win lock : Int) (A : Us) (u : ByteArray) (now : Int) (x : Bool) (w : World) (h : LK w S b most win lock A) (hu : u.size ≤ 1000000000) (hx : lockedA A u now = x) :
    Calls Try.prog 12 #[.pointer (some ⟨b, 0, none⟩), .string u, .int .i64 now] w fun e w' => e = .returned (.bool x) ∧ Below w.heap.size w w' := by
  obtain ⟨g, ρ, h⟩ := h
  have H := Lib.hid h
  have HM := Lib.hid (fun V (hV : Below w.heap.size w V) => made_s b g most win lock V (h.blk.step hV))
  obtain ⟨v, hv, hir, hok, _, _⟩ := h.cur u
  obtain ⟨y, hy⟩ : ∃ y, limI now = y := ⟨_, rfl⟩
  rw [locked_is, hy] at hx
  obtain ⟨z, hz⟩ : ∃ z, (curR A u).2 = z := ⟨_, rfl⟩
  rw [hz] at hv hx
  have HY := Lib.hid hy
  have HX := Lib.hid hx
  have HSt : Hid (∀ V, Below w.heap.size w V → V.cell? ⟨b, 4, none⟩ = some (.map (some g)) ∧ (Instr.lookup 50 (.map (some g)) (.string u) false).run Try.prog V = .ok (.agg #[v, .int .i64 z]) V ∧ Hid (Below w.heap.size w V)) :=
    Lib.hid fun V hV => ⟨(H.out.step hV).flat.2.2.2.2, by
      have := (H.out.step hV).look u hu
      rw [hv] at this
      exact this, Lib.hid hV⟩
  have hfld : ∀ W, (Instr.field 59 (.agg #[v, .int .i64 z]) 1).run Try.prog W = .ok (.int .i64 z) W := fun W => by kernel_rfl
  clear h hx hy hz hv hir hok
  go_enter Try.func12, Try.ntmps12
  go_wp2_with fail
  have HB := Lib.hid (Below.refl w.heap.size w).drew
  have S0 := HSt.out _ HB.out
  refine wp_region_held_drew (S := fun V => V.cell? ⟨b, 4, none⟩ = some (.map (some g)) ∧ (Instr.lookup 50 (.map (some g)) (.string u) false).run Try.prog V = .ok (.agg #[v, .int .i64 z]) V ∧ Hid (Below w.heap.size w V)) (by kernel_rfl) (S0) (fun hS => ?_)
  refine wpAnyH_take (i := 0) (oi := { dst := some 7, op := _, type := _, pos := _, after := _, guard := _ }) (v := ?_) rfl (by kernel_rfl) (by kernel_rfl) (by kernel_rfl) (fun _ _ _ h => h) (Or.inl ⟨by rfl, ?_⟩) (by assumption) ?_
  rotate_left
  · intro w hSw
    try dsimp only at hSw
    go_simp
    try with_reducible rfl
  try simp only [Act.put, List.setIfInBounds_toArray, List.set_cons_zero, List.set_cons_succ]
  refine wpAnyH_ready (rs := [1]) (by kernel_rfl) (by simp) ?_
  refine AllReadyH.cons rfl (fun K hK => ?_) AllReadyH.nil
  go_simp
  refine (HM.out _ HB.out).mono ?_
  rintro e w' ⟨rfl, rfl⟩
  go_wp2_with fail
  refine hK.out _ _ ?_ (fun hHeld => ?_)
  · exact HSt.out _ HB.out
  clear hK K
  try simp only [Act.put, List.setIfInBounds_toArray, List.set_cons_zero, List.set_cons_succ]
  refine wpAnyH_take (i := 2) (oi := { dst := some 9, op := _, type := _, pos := _, after := _, guard := _ }) (v := ?_) rfl (by kernel_rfl) (by kernel_rfl) (by kernel_rfl) (fun _ _ _ h => h) (Or.inl ⟨by rfl, ?_⟩) (by assumption) ?_
  rotate_left
  · intro w hSw
    try dsimp only at hSw
    go_simp
    try with_reducible rfl
  try simp only [Act.put, List.setIfInBounds_toArray, List.set_cons_zero, List.set_cons_succ]
  refine wpAnyH_take (i := 3) (oi := { dst := some 10, op := _, type := _, pos := _, after := _, guard := _ }) (v := ?_) rfl (by kernel_rfl) (by kernel_rfl) (by kernel_rfl) (fun _ _ _ h => h) (Or.inl ⟨by rfl, ?_⟩) (by assumption) ?_
  rotate_left
  · intro w hSw
    try dsimp only at hSw
    go_simp
    try with_reducible rfl
  try simp only [Act.put, List.setIfInBounds_toArray, List.set_cons_zero, List.set_cons_succ]
  refine wpAnyH_take (i := 5) (oi := { dst := some 12, op := _, type := _, pos := _, after := _, guard := _ }) (v := ?_) rfl (by kernel_rfl) (by kernel_rfl) (by kernel_rfl) (fun _ _ _ h => h) (Or.inl ⟨by rfl, ?_⟩) (by assumption) ?_
  rotate_left
  · intro w hSw
    try dsimp only at hSw
    go_simp
    try with_reducible rfl
  try simp only [Act.put, List.setIfInBounds_toArray, List.set_cons_zero, List.set_cons_succ]
  refine wpAnyH_take (i := 6) (oi := { dst := some 13, op := _, type := _, pos := _, after := _, guard := _ }) (v := ?_) rfl (by kernel_rfl) (by kernel_rfl) (by kernel_rfl) (fun _ _ _ h => h) (Or.inl ⟨by rfl, ?_⟩) (by assumption) ?_
  rotate_left
  · intro w hSw
    try dsimp only at hSw
    go_simp
    try with_reducible rfl
  try simp only [Act.put, List.setIfInBounds_toArray, List.set_cons_zero, List.set_cons_succ]
  refine wpAnyH_take (i := 7) (oi := { dst := some 14, op := _, type := _, pos := _, after := _, guard := _ }) (v := ?_) rfl (by kernel_rfl) (by kernel_rfl) (by kernel_rfl) (fun _ _ _ h => h) (Or.inl ⟨by rfl, ?_⟩) (by assumption) ?_
  rotate_left
  · intro w hSw
    try dsimp only at hSw
    go_simp
    try with_reducible rfl
  try simp only [Act.put, List.setIfInBounds_toArray, List.set_cons_zero, List.set_cons_succ]
  refine wpAnyH_take (i := 8) (oi := { dst := some 15, op := _, type := _, pos := _, after := _, guard := _ }) (v := ?_) rfl (by kernel_rfl) (by kernel_rfl) (by kernel_rfl) (fun _ _ _ h => h) (Or.inl ⟨by rfl, ?_⟩) (by assumption) ?_
  rotate_left
  · intro w hSw
    try dsimp only at hSw
    go_simp
    try with_reducible rfl
  try simp only [Act.put, List.setIfInBounds_toArray, List.set_cons_zero, List.set_cons_succ]
  refine wpAnyH_take (i := 9) (oi := { dst := some 16, op := _, type := _, pos := _, after := _, guard := _ }) (v := ?_) rfl (by kernel_rfl) (by kernel_rfl) (by kernel_rfl) (fun _ _ _ h => h) (Or.inl ⟨by rfl, ?_⟩) (by assumption) ?_
  rotate_left
  · intro w hSw
    try dsimp only at hSw
    go_simp
    try with_reducible rfl
  try simp only [Act.put, List.setIfInBounds_toArray, List.set_cons_zero, List.set_cons_succ]
  refine wpAnyH_take (i := 10) (oi := { dst := some 17, op := _, type := _, pos := _, after := _, guard := _ }) (v := ?_) rfl (by kernel_rfl) (by kernel_rfl) (by kernel_rfl) (fun _ _ _ h => h) (Or.inl ⟨by rfl, ?_⟩) (by assumption) ?_
  rotate_left
  · intro w hSw
    try dsimp only at hSw
    go_simp
    try with_reducible rfl
  try simp only [Act.put, List.setIfInBounds_toArray, List.set_cons_zero, List.set_cons_succ]
  refine wpAnyH_take (i := 11) (oi := { dst := some 18, op := _, type := _, pos := _, after := _, guard := _ }) (v := ?_) rfl (by kernel_rfl) (by kernel_rfl) (by kernel_rfl) (fun _ _ _ h => h) (Or.inl ⟨by rfl, ?_⟩) (by assumption) ?_
  rotate_left
  · intro w hSw
    try dsimp only at hSw
    go_simp
    try with_reducible rfl
  try simp only [Act.put, List.setIfInBounds_toArray, List.set_cons_zero, List.set_cons_succ]
  refine wpAnyH_ready (rs := [4]) (by kernel_rfl) (by simp) ?_
  refine AllReadyH.cons rfl (fun K hK => ?_) AllReadyH.nil
  go_simp
  refine (limd_s now y _ HY.out).mono ?_
  rintro e w' ⟨rfl, rfl⟩
  go_wp2_with fail
  refine hK.out _ _ ?_ (fun hHeld => ?_)
  · exact HSt.out _ HB.out
  clear hK K
  try simp only [Act.put, List.setIfInBounds_toArray, List.set_cons_zero, List.set_cons_succ]
  refine wpAnyH_take (i := 12) (oi := { dst := some 19, op := _, type := _, pos := _, after := _, guard := _ }) (v := ?_) rfl (by kernel_rfl) (by kernel_rfl) (by kernel_rfl) (fun _ _ _ h => h) (Or.inl ⟨by rfl, ?_⟩) (by assumption) ?_
  rotate_left
  · intro w hSw
    try dsimp only at hSw
    go_simp
    try with_reducible rfl
  try simp only [Act.put, List.setIfInBounds_toArray, List.set_cons_zero, List.set_cons_succ]
  refine wpAnyH_take (i := 13) (oi := { dst := some 20, op := _, type := _, pos := _, after := _, guard := _ }) (v := ?_) rfl (by kernel_rfl) (by kernel_rfl) (by kernel_rfl) (fun _ _ _ h => h) (Or.inl ⟨by rfl, ?_⟩) (by assumption) ?_
  rotate_left
  · intro w hSw
    try dsimp only at hSw
    go_simp
    try with_reducible rfl
  try simp only [Act.put, List.setIfInBounds_toArray, List.set_cons_zero, List.set_cons_succ]
  refine wpAnyH_take (i := 14) (oi := { dst := some 6, op := _, type := _, pos := _, after := _, guard := _ }) (v := ?_) rfl (by kernel_rfl) (by kernel_rfl) (by kernel_rfl) (fun _ _ _ h => h) (Or.inl ⟨by rfl, ?_⟩) (by assumption) ?_
  rotate_left
  · intro w hSw
    try dsimp only at hSw
    go_simp
    try with_reducible rfl
  try simp only [Act.put, List.setIfInBounds_toArray, List.set_cons_zero, List.set_cons_succ]
  refine wpAnyH_done (by kernel_rfl) ?_ _
  go_wp2_with fail
  go_ret
  exact ⟨by rw [← HX.out]; rfl, HB.out⟩
set_option maxHeartbeats 8000000 in
theorem fails_k (S : Nat → Prop) (b : Nat) (most win lock : Int) (A : Us) (u : ByteArray) (now : Int) (x : Nat) (w : World) (h : LK w S b most win lock A) (hu : u.size ≤ 1000000000) (hx : failsA win A u now = x) :
    Calls Try.prog 14 #[.pointer (some ⟨b, 0, none⟩), .string u, .int .i64 now] w fun e w' => e = .returned (.int .i64 x) ∧ Below w.heap.size w w' := by
  obtain ⟨g, ρ, h⟩ := h
  have H := Lib.hid h
  have HM := Lib.hid (fun V (hV : Below w.heap.size w V) => made_s b g most win lock V (h.blk.step hV))
  obtain ⟨v, hv, hir, hok, _, _⟩ := h.cur u
  obtain ⟨y, hy⟩ : ∃ y, limI now = y := ⟨_, rfl⟩
  have hyb := limI_bd now
  rw [hy] at hyb
  have hx2 : cntF win (curR A u).1 y = x := by rw [← hy]; exact hx
  obtain ⟨z, hz⟩ : ∃ z, (curR A u).2 = z := ⟨_, rfl⟩
  rw [hz] at hv
  have HY := Lib.hid hy
  have HC : Hid (∀ V, Below w.heap.size w V → Calls Try.prog 26 #[.pointer (some ⟨b, 0, none⟩), .agg #[v, .int .i64 z], .int .i64 y] V fun e w' => e = .returned (.int .i64 x) ∧ Below V.heap.size V w') :=
    Lib.hid fun V hV => countF_s b g most win lock v z y _ x V (h.blk.step hV) (hir.keep hV.size fun i e => hV.block i (hir.lt e)) hok.len hok.tm hyb.1 hyb.2 hx2
  have HSt : Hid (∀ V, Below w.heap.size w V → V.cell? ⟨b, 4, none⟩ = some (.map (some g)) ∧ (Instr.lookup 50 (.map (some g)) (.string u) false).run Try.prog V = .ok (.agg #[v, .int .i64 z]) V ∧ Hid (Below w.heap.size w V)) :=
    Lib.hid fun V hV => ⟨(H.out.step hV).flat.2.2.2.2, by
      have := (H.out.step hV).look u hu
      rw [hv] at this
      exact this, Lib.hid hV⟩
  clear h hx hx2 hy hyb hz hv hir hok
  go_enter Try.func14, Try.ntmps14
  go_wp2_with fail
  refine (HM.out _ (Below.refl _ _)).mono ?_
  rintro e w' ⟨rfl, rfl⟩
  go_wp2_with fail
  have HB := Lib.hid (Below.refl w.heap.size w).drew
  have S0 := HSt.out _ HB.out
  refine wp_region_held_drew (S := fun V => V.cell? ⟨b, 4, none⟩ = some (.map (some g)) ∧ (Instr.lookup 50 (.map (some g)) (.string u) false).run Try.prog V = .ok (.agg #[v, .int .i64 z]) V ∧ Hid (Below w.heap.size w V)) (by kernel_rfl) (S0) (fun hS => ?_)
  refine wpAnyH_take (i := 0) (oi := { dst := some 10, op := _, type := _, pos := _, after := _, guard := _ }) (v := ?_) rfl (by kernel_rfl) (by kernel_rfl) (by kernel_rfl) (fun _ _ _ h => h) (Or.inl ⟨by rfl, ?_⟩) (by assumption) ?_
  rotate_left
  · intro w hSw
    try dsimp only at hSw
    go_simp
    try with_reducible rfl
  try simp only [Act.put, List.setIfInBounds_toArray, List.set_cons_zero, List.set_cons_succ]
  refine wpAnyH_take (i := 1) (oi := { dst := some 11, op := _, type := _, pos := _, after := _, guard := _ }) (v := ?_) rfl (by kernel_rfl) (by kernel_rfl) (by kernel_rfl) (fun _ _ _ h => h) (Or.inl ⟨by rfl, ?_⟩) (by assumption) ?_
  rotate_left
  · intro w hSw
    try dsimp only at hSw
    go_simp
    try with_reducible rfl
  try simp only [Act.put, List.setIfInBounds_toArray, List.set_cons_zero, List.set_cons_succ]
  refine wpAnyH_take (i := 2) (oi := { dst := some 12, op := _, type := _, pos := _, after := _, guard := _ }) (v := ?_) rfl (by kernel_rfl) (by kernel_rfl) (by kernel_rfl) (fun _ _ _ h => h) (Or.inl ⟨by rfl, ?_⟩) (by assumption) ?_
  rotate_left
  · intro w hSw
    try dsimp only at hSw
    go_simp
    try with_reducible rfl
  try simp only [Act.put, List.setIfInBounds_toArray, List.set_cons_zero, List.set_cons_succ]
  refine wpAnyH_take (i := 3) (oi := { dst := some 13, op := _, type := _, pos := _, after := _, guard := _ }) (v := ?_) rfl (by kernel_rfl) (by kernel_rfl) (by kernel_rfl) (fun _ _ _ h => h) (Or.inl ⟨by rfl, ?_⟩) (by assumption) ?_
  rotate_left
  · intro w hSw
    try dsimp only at hSw
    go_simp
    try with_reducible rfl
  try simp only [Act.put, List.setIfInBounds_toArray, List.set_cons_zero, List.set_cons_succ]
  refine wpAnyH_take (i := 4) (oi := { dst := some 14, op := _, type := _, pos := _, after := _, guard := _ }) (v := ?_) rfl (by kernel_rfl) (by kernel_rfl) (by kernel_rfl) (fun _ _ _ h => h) (Or.inl ⟨by rfl, ?_⟩) (by assumption) ?_
  rotate_left
  · intro w hSw
    try dsimp only at hSw
    go_simp
    try with_reducible rfl
  try simp only [Act.put, List.setIfInBounds_toArray, List.set_cons_zero, List.set_cons_succ]
  refine wpAnyH_take (i := 5) (oi := { dst := some 15, op := _, type := _, pos := _, after := _, guard := _ }) (v := ?_) rfl (by kernel_rfl) (by kernel_rfl) (by kernel_rfl) (fun _ _ _ h => h) (Or.inl ⟨by rfl, ?_⟩) (by assumption) ?_
  rotate_left
  · intro w hSw
    try dsimp only at hSw
    go_simp
    try with_reducible rfl
  try simp only [Act.put, List.setIfInBounds_toArray, List.set_cons_zero, List.set_cons_succ]
  refine wpAnyH_take (i := 6) (oi := { dst := some 16, op := _, type := _, pos := _, after := _, guard := _ }) (v := ?_) rfl (by kernel_rfl) (by kernel_rfl) (by kernel_rfl) (fun _ _ _ h => h) (Or.inl ⟨by rfl, ?_⟩) (by assumption) ?_
  rotate_left
  · intro w hSw
    try dsimp only at hSw
    go_simp
    try with_reducible rfl
  try simp only [Act.put, List.setIfInBounds_toArray, List.set_cons_zero, List.set_cons_succ]
  refine wpAnyH_take (i := 7) (oi := { dst := some 17, op := _, type := _, pos := _, after := _, guard := _ }) (v := ?_) rfl (by kernel_rfl) (by kernel_rfl) (by kernel_rfl) (fun _ _ _ h => h) (Or.inl ⟨by rfl, ?_⟩) (by assumption) ?_
  rotate_left
  · intro w hSw
    try dsimp only at hSw
    go_simp
    try with_reducible rfl
  try simp only [Act.put, List.setIfInBounds_toArray, List.set_cons_zero, List.set_cons_succ]
  refine wpAnyH_ready (rs := [8]) (by kernel_rfl) (by simp) ?_
  refine AllReadyH.cons rfl (fun K hK => ?_) AllReadyH.nil
  go_simp
  refine (limd_s now y _ HY.out).mono ?_
  rintro e w' ⟨rfl, rfl⟩
  go_wp2_with fail
  refine hK.out _ _ ?_ (fun hHeld => ?_)
  · exact HSt.out _ HB.out
  clear hK K
  try simp only [Act.put, List.setIfInBounds_toArray, List.set_cons_zero, List.set_cons_succ]
  refine wpAnyH_ready (rs := [9]) (by kernel_rfl) (by simp) ?_
  refine AllReadyH.cons rfl (fun K hK => ?_) AllReadyH.nil
  go_simp
  refine (HC.out _ HB.out).mono ?_
  rintro e w1 ⟨rfl, hb⟩
  have HB := Lib.hid (HB.out.trans (hb.mono HB.out.size))
  clear hb
  go_wp2_with fail
  refine hK.out _ _ ?_ (fun hHeld => ?_)
  · exact HSt.out _ HB.out
  clear hK K
  try simp only [Act.put, List.setIfInBounds_toArray, List.set_cons_zero, List.set_cons_succ]
  refine wpAnyH_take (i := 10) (oi := { dst := some 6, op := _, type := _, pos := _, after := _, guard := _ }) (v := ?_) rfl (by kernel_rfl) (by kernel_rfl) (by kernel_rfl) (fun _ _ _ h => h) (Or.inl ⟨by rfl, ?_⟩) (by assumption) ?_
  rotate_left
  · intro w hSw
    try dsimp only at hSw
    go_simp
    try with_reducible rfl
  try simp only [Act.put, List.setIfInBounds_toArray, List.set_cons_zero, List.set_cons_succ]
  refine wpAnyH_done (by kernel_rfl) ?_ _
  go_wp2_with fail
  go_ret
  exact ⟨rfl, HB.out⟩

end Go.Proofs.Ytclecajbcmmddaa
