/-
  Proved: identitylaw04.ClockChecks returns true for every window and every two ints (the tied card). No condition beyond the row's own.
-/
import Derived.Test.YtnncfifpgjlpaabDoorClkLaws
set_option linter.unusedVariables false
set_option linter.unusedSimpArgs false
set_option linter.unnecessarySimpa false
namespace Go.Proofs.YtnncfifpgjlpaabDoor
open Go.ChangeShapes Go.WideShapes Go.ChangeAt Go.RowKit Go.PlainAid
open Go.ChangeMaps (open_string shut_string)

theorem chk_step {w W W' : World} {a b : Int} (h : W.cell? ⟨w.heap.size, 0, none⟩ = some (.int .i64 a) ∧ W.cell? ⟨w.heap.size, 1, none⟩ = some (.int .i64 b) ∧ Hid (Below w.heap.size w W ∧ w.heap.size + 1 ≤ W.heap.size)) (hb : Below W.heap.size W W') :
    W'.cell? ⟨w.heap.size, 0, none⟩ = some (.int .i64 a) ∧ W'.cell? ⟨w.heap.size, 1, none⟩ = some (.int .i64 b) ∧ Hid (Below w.heap.size w W' ∧ w.heap.size + 1 ≤ W'.heap.size) := by
  obtain ⟨h0, h1, h2⟩ := h
  have h3 := h2.out.2
  exact ⟨by rw [hb.cell (p := ⟨w.heap.size, 0, none⟩) h3]; exact h0, by rw [hb.cell (p := ⟨w.heap.size, 1, none⟩) h3]; exact h1, Lib.hid ⟨h2.out.1.trans (hb.mono (by omega)), Nat.le_trans h3 hb.size⟩⟩
set_option maxRecDepth 100000 in
set_option maxHeartbeats 4000000 in
theorem checks_s (u : Wn) (t k : Int) (w : World) (ht : (Lit.int .i64 t).wf = true) (hk : (Lit.int .i64 k).wf = true) (ho : TabOk w) :
    Calls Tryd.prog 4 #[.agg #[.int .i64 u.1, .int .i64 u.2], .int .i64 t, .int .i64 k] w fun e w' => e = .returned (.bool true) ∧ Below w.heap.size w w' := by
  obtain ⟨a, b⟩ := u
  have HB : Hid (Below w.heap.size w (w.alloc (.cells #[.int .i64 a, .int .i64 b] 27)).drew ∧ w.heap.size + 1 ≤ (w.alloc (.cells #[.int .i64 a, .int .i64 b] 27)).drew.heap.size) := Lib.hid ⟨((Below.refl w.heap.size w).alloc (Nat.le_refl _) (.cells #[.int .i64 a, .int .i64 b] 27)).drew, by show w.heap.size + 1 ≤ (w.alloc _).heap.size; simp⟩
  obtain ⟨c0, c1⟩ := cells_box w a b
  have HO := Lib.hid ho
  clear ho
  obtain ⟨r, HR⟩ : ∃ x, Hid (inW a b t = x) := ⟨_, Lib.hid rfl⟩
  obtain ⟨x, HC⟩ : ∃ x, Hid (checkI a b t k = x) := ⟨_, Lib.hid rfl⟩
  have q1 : (r == r) = true := beq_self_eq_true _
  have q2 : (x == x) = true := beq_self_eq_true _
  go_enter Tryd.func4, Tryd.ntmps4
  go_wp2_with fail
  generalize hW0 : w.alloc (.cells #[.int .i64 a, .int .i64 b] 27) = W0 at HB c0 c1
  clear hW0
  go_region_held3 (fun w' => w'.cell? ⟨w.heap.size, 0, none⟩ = some (.int .i64 a) ∧ w'.cell? ⟨w.heap.size, 1, none⟩ = some (.int .i64 b) ∧ Hid (Below w.heap.size w w' ∧ w.heap.size + 1 ≤ w'.heap.size))
    (first | exact ⟨c0, c1, HB⟩ | exact chk_step (by assumption) hb | go_keep)
    (first
      | (go_at_call 17; refine (in_k a b t r _ HR.out).mono ?_; rintro e w' ⟨rfl, hb⟩)
      | (go_at_call 18; refine (rin_k a b t r _ HR.out).mono ?_; rintro e w' ⟨rfl, hb⟩)
      | (go_at_call 19; refine (check_k a b t k x _ HC.out).mono ?_; rintro e w' ⟨rfl, hb⟩)
      | (go_at_call 20; refine (rcheck_k a b t k x _ HC.out).mono ?_; rintro e w' ⟨rfl, hb⟩)
      | (go_at_call 16; refine (live_k _ (HO.out.below (show Hid (Below w.heap.size w _ ∧ w.heap.size + 1 ≤ _) by first | assumption | exact And.right (And.right (by assumption))).out.1)).mono ?_; rintro e w' ⟨rfl, hb⟩))
  all_goals (go_wp2; go_ret; exact ⟨rfl, (show Hid (Below w.heap.size w _ ∧ w.heap.size + 1 ≤ _) by first | assumption | exact And.right (And.right (by assumption))).out.1⟩)

theorem checks_types : ∀ t ∈ [27, 3, 3], Tryd.prog.readableRec t = true ∧ t < Tryd.prog.types.size := by
  have h : ([27, 3, 3].all fun t => Tryd.prog.readableRec t && decide (t < Tryd.prog.types.size)) = true := by kernel_rfl
  intro t ht
  have := List.all_eq_true.1 h t ht
  simpa using this

set_option maxRecDepth 100000 in
theorem checks_contract (H : Type) (enc : TypeId × Value → H) (W : World) (base : Nat) (args : Array Value) (ds gs : List (DataW H)) (before : List MemPlace)
    (hval : ∀ (j : Nat) t v, Tryd.f4.params[j]? = some t → args[j]? = some v → Value.okWide Tryd.prog W .any base t v)
    (hW : DataW.Whole enc Tryd.prog Tryd.f4.params.toList Rows.clockChecksSpec.vars false W args.toList ds gs before) (hL : laidMetH Tryd.prog Rows.clockChecksRow.laid W) (hsh : W.ShapedOpen Tryd.prog) :
    Calls Tryd.prog 4 args W fun e W' => ∃ v, e = .returned v ∧ Rows.clockChecksSpec.post enc Tryd.prog Tryd.f4 false true false false W args v W' := by
  have hW' := hW
  obtain ⟨p, q, hA0, hV, rfl, hfz, hnd⟩ := hW
  have hA : DataW.TrodAll enc Tryd.prog W 0 (fun _ => true) true Tryd.f4.params.toList args.toList ds p := hA0
  obtain ⟨rfl, rfl⟩ := trodVars_none hV
  simp only [List.append_nil] at hW'
  have hlt : ∀ x ∈ p, x.block < W.heap.size := fun x hx => by simpa using hW'.lt x hx
  have fin : ∀ W', Below W.heap.size W W' → DataW.TrodAll enc Tryd.prog W' 0 (fun b => decide (b < W.heap.size)) true [27, 3, 3] args.toList ds p := fun W' hb => by
    rw [Tryd.params4] at hA
    exact trodAll_below hb _ _ _ _ checks_types hA hlt
  clear hA0
  rw [Tryd.params4] at hA hval
  obtain ⟨v0, vs0, d0, ds0, p0, q0, hargs, rfl, hp0, h0, r0⟩ := trodAll_cons hA
  obtain ⟨v1, vs1, d1, ds1, p1, q1, rfl, rfl, hp1, h1, r1⟩ := trodAll_cons r0
  obtain ⟨v2, vs2, d2, ds2, p2, q2, rfl, rfl, hp2, h2, r2⟩ := trodAll_cons r1
  obtain ⟨rfl, rfl, rfl⟩ := trodAll_nil r2
  obtain rfl : args = #[v0, v1, v2] := by cases args; simp_all
  obtain ⟨u, rfl⟩ := open_win (hval 0 27 v0 rfl rfl) h0
  obtain ⟨t, rfl, rfl, rfl, hs1⟩ := open_int Tryd.underlying3 (hval 1 3 v1 rfl rfl) h1
  obtain ⟨k, rfl, rfl, rfl, hs2⟩ := open_int Tryd.underlying3 (hval 2 3 v2 rfl rfl) h2
  refine (checks_s u t k W hs1 hs2 (tab_ok hL)).mono fun e W' ⟨he, hb⟩ => ?_
  subst he
  exact ⟨_, rfl, _, _, _, [], p, [], hW', trodAll_mk1 (shut_bool Tryd.underlying4 _), fin W' hb, rfl, hb.frame _, fun h => by cases h⟩

set_option maxRecDepth 100000 in
theorem checks_lifted (os : Os) (started : os.Started) (H : Type) (enc : TypeId × Value → H) (F : Stop.Interp) :
    ReturnsInHanded {} Tryd.checked os 4 .any ((OpenSpec.ofChange Rows.clockChecksSpec).preRow enc Tryd.prog Tryd.f4 Rows.clockChecksRow.domain false Rows.clockChecksRow.laid) (((OpenSpec.ofChange Rows.clockChecksSpec).at F).post enc Tryd.prog Tryd.f4 false true false false) := by
  refine returnsInHanded_of_row (C := Tryd.checked) (s := OpenSpec.ofChange Rows.clockChecksSpec) own started (by kernel_rfl) Tryd.func4
    (witness_row (enc := enc) (C := Tryd.checked) false (World.laidAll Tryd.prog os Rows.clockChecksRow.laid) #[.agg #[.int .i64 0, .int .i64 0], .int .i64 0, .int .i64 0] (World.laidAll_os _ _ _)
      (World.shaped_of_ZipB (by kernel_rfl) (by kernel_rfl)) (by kernel_rfl)
      (OpenSpec.preRow_of_cond 8 (x := ([.agg [.lit (.int .i64 0), .lit (.int .i64 0)], .lit (.int .i64 0), .lit (.int .i64 0)], [], [])) (by kernel_rfl) (by kernel_rfl) (fun k hk => by cases hk) (by kernel_rfl)
        (by rw [MakeChecks.laidMetH_plain _ _ _ (by kernel_rfl)]; exact laidMet_laidAll _ (by kernel_rfl) (by kernel_rfl)))) ?_
  intro W base args ds gs before hval hW _ _ _ hL hsh _
  exact checks_contract H enc W base args ds gs before hval hW hL hsh

set_option maxRecDepth 100000 in
theorem checks_said : Rows.ClockChecksSaid :=
  OpenClaim.holds_of_cond 4 Tryd.f4 rfl rfl rfl rfl rfl rfl rfl ⟨rfl, rfl, rfl, rfl, rfl⟩ rfl rfl rfl rfl rfl (by kernel_rfl) Tryd.func4 (by kernel_rfl)
    (of_decide_eq_true (by kernel_rfl)) (by unfold Func.isWrapper; first | (rw [if_pos (by decide +kernel)]; kernel_rfl) | (rw [if_neg (by decide +kernel)]; exact ⟨rfl, rfl⟩))
    (fun os started H enc _ F => by rw [OpenClaim.pre_eq_preRow]; exact checks_lifted os started H enc F)

set_option maxRecDepth 100000 in
theorem checks_plain (f : FuncId) (fn : Func) (hf : Tryd.pinned.checked.prog.funcNamed "identity/identitylaw04.ClockChecks" = some f) (hfn : Tryd.pinned.checked.prog.funcs[f]? = some fn) :
    false = Tryd.pinned.checked.prog.looks [] ∧ ∀ (j : Nat) t, fn.params[j]? = some t → Tryd.pinned.checked.prog.wantsStandIn t = false := by
  obtain rfl : f = 4 := Option.some.inj ((show Tryd.prog.funcNamed "identity/identitylaw04.ClockChecks" = some 4 by kernel_rfl).symm.trans hf) |>.symm
  obtain rfl : fn = Tryd.f4 := (Option.some.inj (Tryd.func4.symm.trans hfn)).symm
  refine ⟨by kernel_rfl, fun j t ht => ?_⟩
  rw [Tryd.params4] at ht
  have hm : t ∈ [27, 3, 3] := by simpa using Array.mem_of_getElem? ht
  have hall : ([27, 3, 3].all fun u => !Tryd.prog.wantsStandIn u) = true := by kernel_rfl
  exact (show Tryd.prog.wantsStandIn t = false by simpa using List.all_eq_true.1 hall t hm)

/-- THE CARD -/
theorem checks_card : Rows.ClockChecksCardSaid :=
  Claim7.holds_tied_plain_at .later [] _ _ _ _ checks_said (fun _ h => by cases h) (by kernel_rfl) (fun _ h => by cases h) clockChecks_row_tie rfl ⟨rfl, rfl⟩ (by kernel_rfl) rfl checks_plain (by kernel_rfl)
end Go.Proofs.YtnncfifpgjlpaabDoor
