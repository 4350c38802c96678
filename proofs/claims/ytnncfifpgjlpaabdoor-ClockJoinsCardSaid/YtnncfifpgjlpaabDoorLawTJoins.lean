/-
  Proved: identitylaw04.ClockJoins returns true for every two windows and every slice of windows (the tied card). No condition beyond the row's own.
-/
import Derived.Test.YtnncfifpgjlpaabDoorClkLaws
set_option linter.unusedVariables false
set_option linter.unusedSimpArgs false
set_option linter.unnecessarySimpa false
namespace Go.Proofs.YtnncfifpgjlpaabDoor
open Go.ChangeShapes Go.WideShapes Go.ChangeAt Go.RowKit Go.PlainAid
open Go.ChangeMaps (open_string shut_string)

set_option maxRecDepth 100000 in
set_option maxHeartbeats 4000000 in
theorem joins_s (a b : Wn) (lo : Option Addr) (ln lc : Nat) (ll : List Wn) (w : World) (hs : WinsAt w lo ln lc ll ∧ (lo = none → ln = 0 ∧ lc = 0)) (ho : TabOk w) :
    Calls Tryd.prog 5 #[.agg #[.int .i64 a.1, .int .i64 a.2], .agg #[.int .i64 b.1, .int .i64 b.2], .slice lo ln lc] w fun e w' => e = .returned (.bool true) ∧ Below w.heap.size w w' := by
  obtain ⟨a0, a1⟩ := a
  obtain ⟨b0, b1⟩ := b
  have HB := Lib.hid (((Below.refl w.heap.size w).alloc (Nat.le_refl _) (.cells #[.int .i64 a0, .int .i64 a1] 27)).alloc (by simp) (.cells #[.int .i64 b0, .int .i64 b1] 27))
  have hsz : (w.alloc (.cells #[.int .i64 a0, .int .i64 a1] 27)).heap.size = w.heap.size + 1 := by simp
  have HX : Hid (∀ W, Below (w.heap.size + 2) ((w.alloc (.cells #[.int .i64 a0, .int .i64 a1] 27)).alloc (.cells #[.int .i64 b0, .int .i64 b1] 27)) W → W.cell? ⟨w.heap.size, 0, none⟩ = some (.int .i64 a0) ∧ W.cell? ⟨w.heap.size, 1, none⟩ = some (.int .i64 a1) ∧ W.cell? ⟨w.heap.size + 1, 0, none⟩ = some (.int .i64 b0) ∧ W.cell? ⟨w.heap.size + 1, 1, none⟩ = some (.int .i64 b1)) := Lib.hid fun W hb => by
    have h1 := cells_box w a0 a1
    have h2 := cells_box (w.alloc (.cells #[.int .i64 a0, .int .i64 a1] 27)) b0 b1
    rw [hsz] at h2
    rw [hb.cell (p := ⟨w.heap.size, 0, none⟩) (by show w.heap.size < _; omega), hb.cell (p := ⟨w.heap.size, 1, none⟩) (by show w.heap.size < _; omega), hb.cell (p := ⟨w.heap.size + 1, 0, none⟩) (by show w.heap.size + 1 < _; omega), hb.cell (p := ⟨w.heap.size + 1, 1, none⟩) (by show w.heap.size + 1 < _; omega)]
    exact ⟨Lib.cell?_alloc_some _ h1.1, Lib.cell?_alloc_some _ h1.2, h2.1, h2.2⟩
  have B0 := Below.refl (w.heap.size + 2) ((w.alloc (.cells #[.int .i64 a0, .int .i64 a1] 27)).alloc (.cells #[.int .i64 b0, .int .i64 b1] 27))
  have S0 : w.heap.size + 2 ≤ ((w.alloc (.cells #[.int .i64 a0, .int .i64 a1] 27)).alloc (.cells #[.int .i64 b0, .int .i64 b1] 27)).heap.size := by simp
  have O0 := ho.below HB.out
  have HO := Lib.hid ho
  have HS := Lib.hid hs.1
  have HZ := Lib.hid hs.2
  clear ho hs hsz
  by_cases h1 : 12 < ln
  · have k1 : (12 : Int) < (ln : Int) := by omega
    go_enter Tryd.func5, Tryd.ntmps5
    go_wp2_with fail
    refine (live_k _ O0).mono ?_
    rintro e w1 ⟨rfl, hb⟩
    go_wp2_with fail
    go_ret
    exact ⟨rfl, HB.out.trans (hb.mono HB.out.size)⟩
  · have k1 : ¬ (12 : Int) < (ln : Int) := by omega
    obtain ⟨⟨x, y⟩, HC⟩ : ∃ r, Hid (comW (a0, a1) (b0, b1) = r) := ⟨_, Lib.hid rfl⟩
    obtain ⟨ok, HCB⟩ : ∃ r, Hid (comB (a0, a1) (b0, b1) = r) := ⟨_, Lib.hid rfl⟩
    obtain ⟨qs, HQ⟩ : ∃ r, Hid (unionW ll = r) := ⟨_, Lib.hid rfl⟩
    have q1 : (x == x) = true := beq_self_eq_true _
    have q2 : (y == y) = true := beq_self_eq_true _
    have q3 : (ok == ok) = true := beq_self_eq_true _
    clear O0
    go_enter Tryd.func5, Tryd.ntmps5
    go_wp2_with fail
    generalize hW0 : (w.alloc (.cells #[.int .i64 a0, .int .i64 a1] 27)).alloc (.cells #[.int .i64 b0, .int .i64 b1] 27) = W0 at HB HX B0 S0
    clear hW0
    refine (common_k (a0, a1) (b0, b1) (x, y) ok _ HC.out HCB.out).mono ?_
    rintro e w1 ⟨rfl, hb⟩
    have B1 := B0.trans (hb.mono S0)
    have S1 := Nat.le_trans S0 hb.size
    clear hb B0 S0
    have HX1 := Lib.hid (fun W (hb : Below (w1.heap.size + 1) (w1.alloc (.cells #[.int .i64 x, .int .i64 y] 27)) W) => show W.cell? ⟨w1.heap.size, 0, none⟩ = some (.int .i64 x) ∧ W.cell? ⟨w1.heap.size, 1, none⟩ = some (.int .i64 y) by
      rw [hb.cell (p := ⟨w1.heap.size, 0, none⟩) (Nat.lt_succ_self _), hb.cell (p := ⟨w1.heap.size, 1, none⟩) (Nat.lt_succ_self _)]; exact cells_box w1 x y)
    have B2 := B1.alloc S1 (.cells #[.int .i64 x, .int .i64 y] 27)
    have S2 : w.heap.size + 2 ≤ (w1.alloc (.cells #[.int .i64 x, .int .i64 y] 27)).heap.size := Nat.le_trans S1 (by simp)
    have D2 : Below (w1.heap.size + 1) (w1.alloc (.cells #[.int .i64 x, .int .i64 y] 27)) (w1.alloc (.cells #[.int .i64 x, .int .i64 y] 27)) := Below.refl _ _
    have T2 : w1.heap.size + 1 ≤ (w1.alloc (.cells #[.int .i64 x, .int .i64 y] 27)).heap.size := by simp
    obtain ⟨c0, c1, c2, c3⟩ := HX.out _ B2
    go_wp2_with fail
    generalize hW2 : w1.alloc (.cells #[.int .i64 x, .int .i64 y] 27) = w2 at HX1 B2 S2 D2 T2
    clear hW2 c0 c1 c2 c3 B1 S1
    refine (rcommon_k (a0, a1) (b0, b1) (x, y) ok _ HC.out HCB.out).mono ?_
    rintro e w3 ⟨rfl, hb⟩
    have B3 := B2.trans (hb.mono S2)
    have S3 := Nat.le_trans S2 hb.size
    have D3 := D2.trans (hb.mono T2)
    have T3 := Nat.le_trans T2 hb.size
    clear D2 T2
    clear hb B2 S2
    have D4 := D3.alloc T3 (.cells #[.int .i64 x, .int .i64 y] 27)
    have B4 := B3.alloc S3 (.cells #[.int .i64 x, .int .i64 y] 27)
    have S4 : w.heap.size + 2 ≤ (w3.alloc (.cells #[.int .i64 x, .int .i64 y] 27)).heap.size := Nat.le_trans S3 (by simp)
    obtain ⟨d0, d1⟩ := HX1.out _ D4
    obtain ⟨e0, e1⟩ := cells_box w3 x y
    go_wp2_with fail
    generalize hW4 : w3.alloc (.cells #[.int .i64 x, .int .i64 y] 27) = w4 at D4 B4 S4 d0 d1 e0 e1
    clear hW4 d0 d1 e0 e1 D3 T3 B3 S3 D4
    refine (union_k lo ln lc ll qs _ (HS.out.below (HB.out.trans (B4.mono (Nat.le_add_right _ _)))) (by omega) HZ.out HQ.out).mono ?_
    rintro e w5 ⟨uo, un, uc, rfl, hu, hb⟩
    have B5 := B4.trans (hb.mono S4)
    have S5 := Nat.le_trans S4 hb.size
    have HU := Lib.hid hu
    clear hu
    clear hb B4 S4
    go_wp2_with fail
    refine (runion_k lo ln lc ll qs _ (HS.out.below (HB.out.trans (B5.mono (Nat.le_add_right _ _)))) (by omega) HQ.out).mono ?_
    rintro e w6 ⟨vo, vn, vc, rfl, hv, hb⟩
    have B6 := B5.trans (hb.mono S5)
    have S6 := Nat.le_trans S5 hb.size
    have HU := Lib.hid (HU.out.below hb)
    have HV := Lib.hid hv
    clear hv
    clear hb B5 S5
    go_wp2_with fail
    refine (same_k _ _ _ _ _ _ qs qs true _ HU.out HV.out (decide_eq_true rfl)).mono ?_
    rintro e w7 ⟨rfl, hb⟩
    have B7 := B6.trans (hb.mono S6)
    have S7 := Nat.le_trans S6 hb.size
    clear hb B6 S6
    go_wp2_with fail
    refine (live_k _ (HO.out.below (HB.out.trans (B7.mono (Nat.le_add_right _ _))))).mono ?_
    rintro e w8 ⟨rfl, hb⟩
    have B8 := B7.trans (hb.mono S7)
    have S8 := Nat.le_trans S7 hb.size
    clear hb B7 S7
    go_wp2_with fail
    go_ret
    exact ⟨rfl, HB.out.trans (B8.mono (Nat.le_add_right _ _))⟩

theorem joins_types : ∀ t ∈ [27, 27, 32], Tryd.prog.readableRec t = true ∧ t < Tryd.prog.types.size := by
  have h : ([27, 27, 32].all fun t => Tryd.prog.readableRec t && decide (t < Tryd.prog.types.size)) = true := by kernel_rfl
  intro t ht
  have := List.all_eq_true.1 h t ht
  simpa using this

set_option maxRecDepth 100000 in
theorem joins_contract (H : Type) (enc : TypeId × Value → H) (W : World) (base : Nat) (args : Array Value) (ds gs : List (DataW H)) (before : List MemPlace)
    (hval : ∀ (j : Nat) t v, Tryd.f5.params[j]? = some t → args[j]? = some v → Value.okWide Tryd.prog W .any base t v)
    (hW : DataW.Whole enc Tryd.prog Tryd.f5.params.toList Rows.clockJoinsSpec.vars false W args.toList ds gs before) (hL : laidMetH Tryd.prog Rows.clockJoinsRow.laid W) (hsh : W.ShapedOpen Tryd.prog) :
    Calls Tryd.prog 5 args W fun e W' => ∃ v, e = .returned v ∧ Rows.clockJoinsSpec.post enc Tryd.prog Tryd.f5 false true false false W args v W' := by
  have hW' := hW
  obtain ⟨p, q, hA0, hV, rfl, hfz, hnd⟩ := hW
  have hA : DataW.TrodAll enc Tryd.prog W 0 (fun _ => true) true Tryd.f5.params.toList args.toList ds p := hA0
  obtain ⟨rfl, rfl⟩ := trodVars_none hV
  simp only [List.append_nil] at hW'
  have hlt : ∀ x ∈ p, x.block < W.heap.size := fun x hx => by simpa using hW'.lt x hx
  have fin : ∀ W', Below W.heap.size W W' → DataW.TrodAll enc Tryd.prog W' 0 (fun b => decide (b < W.heap.size)) true [27, 27, 32] args.toList ds p := fun W' hb => by
    rw [Tryd.params5] at hA
    exact trodAll_below hb _ _ _ _ joins_types hA hlt
  clear hA0
  rw [Tryd.params5] at hA hval
  obtain ⟨v0, vs0, d0, ds0, p0, q0, hargs, rfl, hp0, h0, r0⟩ := trodAll_cons hA
  obtain ⟨v1, vs1, d1, ds1, p1, q1, rfl, rfl, hp1, h1, r1⟩ := trodAll_cons r0
  obtain ⟨v2, vs2, d2, ds2, p2, q2, rfl, rfl, hp2, h2, r2⟩ := trodAll_cons r1
  obtain ⟨rfl, rfl, rfl⟩ := trodAll_nil r2
  obtain rfl : args = #[v0, v1, v2] := by cases args; simp_all
  obtain ⟨a, rfl⟩ := open_win (hval 0 27 v0 rfl rfl) h0
  obtain ⟨b, rfl⟩ := open_win (hval 1 27 v1 rfl rfl) h1
  obtain ⟨l, ln, lc, ll, rfl, hs2⟩ := open_wins (hval 2 32 v2 rfl rfl) h2
  refine (joins_s a b l ln lc ll W hs2 (tab_ok hL)).mono fun e W' ⟨he, hb⟩ => ?_
  subst he
  exact ⟨_, rfl, _, _, _, [], p, [], hW', trodAll_mk1 (shut_bool Tryd.underlying4 _), fin W' hb, rfl, hb.frame _, fun h => by cases h⟩

set_option maxRecDepth 100000 in
theorem joins_lifted (os : Os) (started : os.Started) (H : Type) (enc : TypeId × Value → H) (F : Stop.Interp) :
    ReturnsInHanded {} Tryd.checked os 5 .any ((OpenSpec.ofChange Rows.clockJoinsSpec).preRow enc Tryd.prog Tryd.f5 Rows.clockJoinsRow.domain false Rows.clockJoinsRow.laid) (((OpenSpec.ofChange Rows.clockJoinsSpec).at F).post enc Tryd.prog Tryd.f5 false true false false) := by
  refine returnsInHanded_of_row (C := Tryd.checked) (s := OpenSpec.ofChange Rows.clockJoinsSpec) own started (by kernel_rfl) Tryd.func5
    (witness_row (enc := enc) (C := Tryd.checked) false (World.laidAll Tryd.prog os Rows.clockJoinsRow.laid) #[.agg #[.int .i64 0, .int .i64 0], .agg #[.int .i64 0, .int .i64 0], .slice none 0 0] (World.laidAll_os _ _ _)
      (World.shaped_of_ZipB (by kernel_rfl) (by kernel_rfl)) (by kernel_rfl)
      (OpenSpec.preRow_of_cond 8 (x := ([.agg [.lit (.int .i64 0), .lit (.int .i64 0)], .agg [.lit (.int .i64 0), .lit (.int .i64 0)], .nil], [], [])) (by kernel_rfl) (by kernel_rfl) (fun k hk => by cases hk) (by kernel_rfl)
        (by rw [MakeChecks.laidMetH_plain _ _ _ (by kernel_rfl)]; exact laidMet_laidAll _ (by kernel_rfl) (by kernel_rfl)))) ?_
  intro W base args ds gs before hval hW _ _ _ hL hsh _
  exact joins_contract H enc W base args ds gs before hval hW hL hsh

set_option maxRecDepth 100000 in
theorem joins_said : Rows.ClockJoinsSaid :=
  OpenClaim.holds_of_cond 5 Tryd.f5 rfl rfl rfl rfl rfl rfl rfl ⟨rfl, rfl, rfl, rfl, rfl⟩ rfl rfl rfl rfl rfl (by kernel_rfl) Tryd.func5 (by kernel_rfl)
    (of_decide_eq_true (by kernel_rfl)) (by unfold Func.isWrapper; first | (rw [if_pos (by decide +kernel)]; kernel_rfl) | (rw [if_neg (by decide +kernel)]; exact ⟨rfl, rfl⟩))
    (fun os started H enc _ F => by rw [OpenClaim.pre_eq_preRow]; exact joins_lifted os started H enc F)

set_option maxRecDepth 100000 in
theorem joins_plain (f : FuncId) (fn : Func) (hf : Tryd.pinned.checked.prog.funcNamed "identity/identitylaw04.ClockJoins" = some f) (hfn : Tryd.pinned.checked.prog.funcs[f]? = some fn) :
    false = Tryd.pinned.checked.prog.looks [] ∧ ∀ (j : Nat) t, fn.params[j]? = some t → Tryd.pinned.checked.prog.wantsStandIn t = false := by
  obtain rfl : f = 5 := Option.some.inj ((show Tryd.prog.funcNamed "identity/identitylaw04.ClockJoins" = some 5 by kernel_rfl).symm.trans hf) |>.symm
  obtain rfl : fn = Tryd.f5 := (Option.some.inj (Tryd.func5.symm.trans hfn)).symm
  refine ⟨by kernel_rfl, fun j t ht => ?_⟩
  rw [Tryd.params5] at ht
  have hm : t ∈ [27, 27, 32] := by simpa using Array.mem_of_getElem? ht
  have hall : ([27, 27, 32].all fun u => !Tryd.prog.wantsStandIn u) = true := by kernel_rfl
  exact (show Tryd.prog.wantsStandIn t = false by simpa using List.all_eq_true.1 hall t hm)

/-- THE CARD -/
theorem joins_card : Rows.ClockJoinsCardSaid :=
  Claim7.holds_tied_plain_at .later [] _ _ _ _ joins_said (fun _ h => by cases h) (by kernel_rfl) (fun _ h => by cases h) clockJoins_row_tie rfl ⟨rfl, rfl⟩ (by kernel_rfl) rfl joins_plain (by kernel_rfl)
end Go.Proofs.YtnncfifpgjlpaabDoor
