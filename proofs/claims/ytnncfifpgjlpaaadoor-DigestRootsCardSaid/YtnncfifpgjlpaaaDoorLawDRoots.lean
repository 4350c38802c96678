/-
  Proved: identitylaw03.DigestRoots returns true for every slice of strings and every int (the tied card). No condition beyond the row's own.
-/
import Derived.Test.YtnncfifpgjlpaaaDoorDigLaws
set_option linter.unusedVariables false
set_option linter.unusedSimpArgs false
set_option linter.unnecessarySimpa false
namespace Go.Proofs.YtnncfifpgjlpaaaDoor
open Go.ChangeShapes Go.WideShapes Go.ChangeAt Go.RowKit Go.PlainAid
open Go.ChangeMaps (open_string shut_string)

set_option maxRecDepth 100000 in
set_option maxHeartbeats 4000000 in
theorem roots_s (ao : Option Addr) (n cap : Nat) (ps : List ByteArray) (i : Int) (w : World) (hs : StrsAt w ao n cap ps) (hr : (Lit.int .i64 i).wf = true) (ho : PowOk w) :
    Calls Tryd.prog 6 #[.slice ao n cap, .int .i64 i] w fun e w' => e = .returned (.bool true) ∧ Below w.heap.size w w' := by
  have B0 := Below.refl w.heap.size w
  have O0 := ho
  have S := hs
  have hpn := hs.1
  obtain ⟨h0, h9⟩ := int_range hr
  clear hr hs
  cases g1 : shortB ps with
  | false =>
    go_enter Tryd.func6, Tryd.ntmps6
    go_wp2_with fail
    refine (short_k _ _ _ ps false _ S g1).mono ?_
    rintro e w' ⟨rfl, rfl⟩
    go_wp2_with fail
    refine (awake_s _ O0).mono ?_
    rintro e w1 ⟨rfl, hb⟩
    have B1 := B0.trans (hb.mono B0.size)
    have O1 := O0.below hb
    clear hb
    go_wp2_with fail
    go_ret
    exact ⟨rfl, B1⟩
  | true =>
    obtain ⟨gn, gp⟩ := short_true g1
    obtain ⟨x, HX⟩ : ∃ x, Hid (rootS ps = x) := ⟨_, Lib.hid rfl⟩
    have q1 : (x.toList == x.toList) = true := beq_self_eq_true _
    by_cases hi : i < 0 ∨ (n : Int) ≤ i
    · skip
      go_enter Tryd.func6, Tryd.ntmps6
      go_wp2_with fail
      refine (short_k _ _ _ ps true _ S g1).mono ?_
      rintro e w' ⟨rfl, rfl⟩
      go_wp2_with fail
      refine (path_bad _ _ _ ps i _ S (by omega) hi).mono ?_
      rintro e w' ⟨rfl, rfl⟩
      go_wp2_with fail
      refine (rpath_bad _ _ _ ps i _ S (by omega) hi).mono ?_
      rintro e w' ⟨rfl, rfl⟩
      go_wp2_with fail
      refine (root_k _ _ _ ps x _ S (by omega) (fun j hj => by have := gp j (by omega); omega) HX.out).mono ?_
      rintro e w1 ⟨rfl, hb⟩
      have B1 := B0.trans (hb.mono B0.size)
      have O1 := O0.below hb
      have S := S.below hb
      clear hb
      go_wp2_with fail
      refine (rroot_k _ _ _ ps x _ S (by omega) (fun j hj => by have := gp j (by omega); omega) HX.out).mono ?_
      rintro e w2 ⟨rfl, hb⟩
      have B2 := B1.trans (hb.mono B1.size)
      have O2 := O1.below hb
      have S := S.below hb
      clear hb
      go_wp2_with fail
      refine (same_k _ _ _ _ _ _ [] [] true _ (strs_nil _) (strs_nil _) rfl).mono ?_
      rintro e w3 ⟨rfl, hb⟩
      have B3 := B2.trans (hb.mono B2.size)
      have O3 := O2.below hb
      clear hb
      go_wp2_with fail
      refine (awake_s _ O3).mono ?_
      rintro e w4 ⟨rfl, hb⟩
      have B4 := B3.trans (hb.mono B3.size)
      have O4 := O3.below hb
      clear hb
      go_wp2_with fail
      go_ret
      exact ⟨rfl, B4⟩
    · obtain ⟨i, rfl⟩ := Int.eq_ofNat_of_zero_le (show 0 ≤ i by omega)
      obtain ⟨Q, HQ⟩ : ∃ x, Hid (pathL (ps.map leafS) i = x) := ⟨_, Lib.hid rfl⟩
      go_enter Tryd.func6, Tryd.ntmps6
      go_wp2_with fail
      refine (short_k _ _ _ ps true _ S g1).mono ?_
      rintro e w' ⟨rfl, rfl⟩
      go_wp2_with fail
      refine (path_k _ _ _ ps Q i _ _ S (by omega) (fun j hj => by have := gp j (by omega); omega) (by omega) HQ.out rfl).mono ?_
      rintro e w1 ⟨⟨bo, dap, rfl, P⟩, hb⟩
      have B1 := B0.trans (hb.mono B0.size)
      have O1 := O0.below hb
      have S := S.below hb
      clear hb
      go_wp2_with fail
      refine (rpath_k _ _ _ ps Q i _ _ S (by omega) (fun j hj => by have := gp j (by omega); omega) (by omega) HQ.out rfl).mono ?_
      rintro e w2 ⟨⟨co, eap, rfl, R⟩, hb⟩
      have B2 := B1.trans (hb.mono B1.size)
      have O2 := O1.below hb
      have S := S.below hb
      have P := P.below hb
      clear hb
      go_wp2_with fail
      refine (root_k _ _ _ ps x _ S (by omega) (fun j hj => by have := gp j (by omega); omega) HX.out).mono ?_
      rintro e w3 ⟨rfl, hb⟩
      have B3 := B2.trans (hb.mono B2.size)
      have O3 := O2.below hb
      have S := S.below hb
      have P := P.below hb
      have R := R.below hb
      clear hb
      go_wp2_with fail
      refine (rroot_k _ _ _ ps x _ S (by omega) (fun j hj => by have := gp j (by omega); omega) HX.out).mono ?_
      rintro e w4 ⟨rfl, hb⟩
      have B4 := B3.trans (hb.mono B3.size)
      have O4 := O3.below hb
      have P := P.below hb
      have R := R.below hb
      clear hb
      go_wp2_with fail
      refine (same_k _ _ _ _ _ _ Q Q true _ P R (decide_eq_true rfl)).mono ?_
      rintro e w5 ⟨rfl, hb⟩
      have B5 := B4.trans (hb.mono B4.size)
      have O5 := O4.below hb
      clear hb
      go_wp2_with fail
      refine (awake_s _ O5).mono ?_
      rintro e w6 ⟨rfl, hb⟩
      have B6 := B5.trans (hb.mono B5.size)
      have O6 := O5.below hb
      clear hb
      go_wp2_with fail
      go_ret
      exact ⟨rfl, B6⟩

theorem roots_types : ∀ t ∈ [35, 3], Tryd.prog.readableRec t = true ∧ t < Tryd.prog.types.size := by
  have h : ([35, 3].all fun t => Tryd.prog.readableRec t && decide (t < Tryd.prog.types.size)) = true := by kernel_rfl
  intro t ht
  have := List.all_eq_true.1 h t ht
  simpa using this

set_option maxRecDepth 100000 in
theorem roots_contract (H : Type) (enc : TypeId × Value → H) (W : World) (base : Nat) (args : Array Value) (ds gs : List (DataW H)) (before : List MemPlace)
    (hval : ∀ (j : Nat) t v, Tryd.f6.params[j]? = some t → args[j]? = some v → Value.okWide Tryd.prog W .any base t v)
    (hW : DataW.Whole enc Tryd.prog Tryd.f6.params.toList Rows.digestRootsSpec.vars false W args.toList ds gs before) (hL : laidMetH Tryd.prog Rows.digestRootsRow.laid W) (hsh : W.ShapedOpen Tryd.prog) :
    Calls Tryd.prog 6 args W fun e W' => ∃ v, e = .returned v ∧ Rows.digestRootsSpec.post enc Tryd.prog Tryd.f6 false true false false W args v W' := by
  have hW' := hW
  obtain ⟨p, q, hA0, hV, rfl, hfz, hnd⟩ := hW
  have hA : DataW.TrodAll enc Tryd.prog W 0 (fun _ => true) true Tryd.f6.params.toList args.toList ds p := hA0
  obtain ⟨rfl, rfl⟩ := trodVars_none hV
  simp only [List.append_nil] at hW'
  have hlt : ∀ x ∈ p, x.block < W.heap.size := fun x hx => by simpa using hW'.lt x hx
  have fin : ∀ W', Below W.heap.size W W' → DataW.TrodAll enc Tryd.prog W' 0 (fun b => decide (b < W.heap.size)) true [35, 3] args.toList ds p := fun W' hb => by
    rw [Tryd.params6] at hA
    exact trodAll_below hb _ _ _ _ roots_types hA hlt
  clear hA0
  rw [Tryd.params6] at hA hval
  obtain ⟨v0, vs0, d0, ds0, p0, q0, hargs, rfl, hp0, h0, r0⟩ := trodAll_cons hA
  obtain ⟨v1, vs1, d1, ds1, p1, q1, rfl, rfl, hp1, h1, r1⟩ := trodAll_cons r0
  obtain ⟨rfl, rfl, rfl⟩ := trodAll_nil r1
  obtain rfl : args = #[v0, v1] := by cases args; simp_all
  obtain ⟨l, ln, lc, ll, rfl, hs0⟩ := open_strs (hval 0 35 v0 rfl rfl) h0
  obtain ⟨i, rfl, rfl, rfl, hs1⟩ := open_int Tryd.underlying3 (hval 1 3 v1 rfl rfl) h1
  refine (roots_s l ln lc ll i W hs0 hs1 (pok hL)).mono fun e W' ⟨he, hb⟩ => ?_
  subst he
  exact ⟨_, rfl, _, _, _, [], p, [], hW', trodAll_mk1 (shut_bool Tryd.underlying4 _), fin W' hb, rfl, hb.frame _, fun h => by cases h⟩

set_option maxRecDepth 100000 in
theorem roots_lifted (os : Os) (started : os.Started) (H : Type) (enc : TypeId × Value → H) (F : Stop.Interp) :
    ReturnsInHanded {} Tryd.checked os 6 .any ((OpenSpec.ofChange Rows.digestRootsSpec).preRow enc Tryd.prog Tryd.f6 Rows.digestRootsRow.domain false Rows.digestRootsRow.laid) (((OpenSpec.ofChange Rows.digestRootsSpec).at F).post enc Tryd.prog Tryd.f6 false true false false) := by
  refine returnsInHanded_of_row (C := Tryd.checked) (s := OpenSpec.ofChange Rows.digestRootsSpec) own started (by kernel_rfl) Tryd.func6
    (witness_row (enc := enc) (C := Tryd.checked) false (World.laidAll Tryd.prog os Rows.digestRootsRow.laid) #[.slice none 0 0, .int .i64 0] (World.laidAll_os _ _ _)
      (World.shaped_of_ZipB (by kernel_rfl) (by kernel_rfl)) (by kernel_rfl)
      (OpenSpec.preRow_of_cond 8 (x := ([.nil, .lit (.int .i64 0)], [], [])) (by kernel_rfl) (by kernel_rfl) (fun k hk => by cases hk) (by kernel_rfl)
        (by rw [MakeChecks.laidMetH_plain _ _ _ (by kernel_rfl)]; exact laidMet_laidAll _ (by kernel_rfl) (by kernel_rfl)))) ?_
  intro W base args ds gs before hval hW _ _ _ hL hsh _
  exact roots_contract H enc W base args ds gs before hval hW hL hsh

set_option maxRecDepth 100000 in
theorem roots_said : Rows.DigestRootsSaid :=
  OpenClaim.holds_of_cond 6 Tryd.f6 rfl rfl rfl rfl rfl rfl rfl ⟨rfl, rfl, rfl, rfl, rfl⟩ rfl rfl rfl rfl rfl (by kernel_rfl) Tryd.func6 (by kernel_rfl)
    (of_decide_eq_true (by kernel_rfl)) (by unfold Func.isWrapper; first | (rw [if_pos (by decide +kernel)]; kernel_rfl) | (rw [if_neg (by decide +kernel)]; exact ⟨rfl, rfl⟩))
    (fun os started H enc _ F => by rw [OpenClaim.pre_eq_preRow]; exact roots_lifted os started H enc F)

set_option maxRecDepth 100000 in
theorem roots_plain (f : FuncId) (fn : Func) (hf : Tryd.pinned.checked.prog.funcNamed "identity/identitylaw03.DigestRoots" = some f) (hfn : Tryd.pinned.checked.prog.funcs[f]? = some fn) :
    false = Tryd.pinned.checked.prog.looks [] ∧ ∀ (j : Nat) t, fn.params[j]? = some t → Tryd.pinned.checked.prog.wantsStandIn t = false := by
  obtain rfl : f = 6 := Option.some.inj ((show Tryd.prog.funcNamed "identity/identitylaw03.DigestRoots" = some 6 by kernel_rfl).symm.trans hf) |>.symm
  obtain rfl : fn = Tryd.f6 := (Option.some.inj (Tryd.func6.symm.trans hfn)).symm
  refine ⟨by kernel_rfl, fun j t ht => ?_⟩
  rw [Tryd.params6] at ht
  have hm : t ∈ [35, 3] := by simpa using Array.mem_of_getElem? ht
  have hall : ([35, 3].all fun u => !Tryd.prog.wantsStandIn u) = true := by kernel_rfl
  exact (show Tryd.prog.wantsStandIn t = false by simpa using List.all_eq_true.1 hall t hm)

/-- THE CARD -/
theorem roots_card : Rows.DigestRootsCardSaid :=
  Claim7.holds_tied_plain_at .later [] _ _ _ _ roots_said (fun _ h => by cases h) (by kernel_rfl) (fun _ h => by cases h) digestRoots_row_tie rfl ⟨rfl, rfl⟩ (by kernel_rfl) rfl roots_plain (by kernel_rfl)
end Go.Proofs.YtnncfifpgjlpaaaDoor
