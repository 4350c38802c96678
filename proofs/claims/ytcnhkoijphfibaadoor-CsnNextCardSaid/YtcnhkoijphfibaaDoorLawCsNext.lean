/-
  Proved: identitylaw15.CsnNext returns true for every number and every two ints (the tied card). No condition beyond the row's own.
-/
import Derived.Test.YtcnhkoijphfibaaDoorCsnLaws
set_option linter.unusedVariables false
set_option linter.unusedSimpArgs false
set_option linter.unnecessarySimpa false
namespace Go.Proofs.YtcnhkoijphfibaaDoor
open Go.ChangeShapes Go.WideShapes Go.ChangeAt Go.RowKit Go.PlainAid
open Go.ChangeMaps (open_string shut_string)

set_option maxRecDepth 100000 in
set_option maxHeartbeats 16000000 in
theorem nexts_s (last : Cn) (now : Int) (r : Int) (w : World) (hnow : (Lit.int .i64 now).wf = true) (hr : (Lit.int .i64 r).wf = true) (ho : WOk w) :
    Calls Tryd.prog 5 #[cnV last, .int .i64 now, .int .i64 r] w fun e w' => e = .returned (.bool true) ∧ Below w.heap.size w w' := by
  obtain ⟨t, s, q⟩ := last
  show Calls _ _ #[.agg #[.int .i64 t, .int .i64 s, .int .i64 q], .int .i64 now, .int .i64 r] w _
  obtain ⟨⟨x, y, z⟩, hv⟩ : ∃ p, nxtV (t, s, q) now r = p := ⟨_, rfl⟩
  obtain ⟨k, hk⟩ : ∃ p, nxtE (t, s, q) now r = p := ⟨_, rfl⟩
  have HT := Lib.hid (nxt_ok (c := (t, s, q)) (now := now) (r := r))
  rw [hv, hk] at HT
  have HV := Lib.hid hv
  have HK := Lib.hid hk
  clear hv hk
  have HW := Lib.hid (box_below w (.cells #[.int .i64 t, .int .i64 s, .int .i64 q] 23))
  have HO := Lib.hid (ho.below (box_below w (.cells #[.int .i64 t, .int .i64 s, .int .i64 q] 23)))
  have X0 : Hid (KbC (w.alloc (.cells #[.int .i64 t, .int .i64 s, .int .i64 q] 23)) w.heap.size (.cells #[.int .i64 t, .int .i64 s, .int .i64 q] 23)) := Lib.hid (kbc_new _ _)
  clear ho
  have qx : (x == x) = true := beq_self_eq_true _
  have qy : (y == y) = true := beq_self_eq_true _
  have qz : (z == z) = true := beq_self_eq_true _
  have qk : (k == k) = true := beq_self_eq_true _
  go_enter Tryd.func5, Tryd.ntmps5
  have lX00 : (w.alloc (.cells #[.int .i64 t, .int .i64 s, .int .i64 q] 23)).cell? ⟨w.heap.size, 0, none⟩ = some (.int .i64 t) := X0.out.cell rfl
  have lX01 : (w.alloc (.cells #[.int .i64 t, .int .i64 s, .int .i64 q] 23)).cell? ⟨w.heap.size, 1, none⟩ = some (.int .i64 s) := X0.out.cell rfl
  have lX02 : (w.alloc (.cells #[.int .i64 t, .int .i64 s, .int .i64 q] 23)).cell? ⟨w.heap.size, 2, none⟩ = some (.int .i64 q) := X0.out.cell rfl
  go_wp2_with fail
  clear lX00 lX01 lX02
  generalize w.alloc (.cells #[.int .i64 t, .int .i64 s, .int .i64 q] 23) = w0 at HW HO X0 ⊢
  refine (next_k t s q now r x y z k _ HV.out HK.out).mono ?_
  rintro _ w1 ⟨rfl, hb⟩
  have HW := Lib.hid (HW.out.trans (hb.mono HW.out.size))
  have HO := Lib.hid (HO.out.below hb)
  have X0 := Lib.hid (X0.out.step hb)
  clear hb
  have hb := box_below w1 (.cells #[.int .i64 x, .int .i64 y, .int .i64 z] 23)
  have HW := Lib.hid (HW.out.trans (hb.mono HW.out.size))
  have HO := Lib.hid (HO.out.below hb)
  have X0 := Lib.hid (X0.out.step hb)
  clear hb
  have X1 : Hid (KbC (w1.alloc (.cells #[.int .i64 x, .int .i64 y, .int .i64 z] 23)) w1.heap.size (.cells #[.int .i64 x, .int .i64 y, .int .i64 z] 23)) := Lib.hid (kbc_new _ _)
  have lX00 : (w1.alloc (.cells #[.int .i64 x, .int .i64 y, .int .i64 z] 23)).cell? ⟨w.heap.size, 0, none⟩ = some (.int .i64 t) := X0.out.cell rfl
  have lX01 : (w1.alloc (.cells #[.int .i64 x, .int .i64 y, .int .i64 z] 23)).cell? ⟨w.heap.size, 1, none⟩ = some (.int .i64 s) := X0.out.cell rfl
  have lX02 : (w1.alloc (.cells #[.int .i64 x, .int .i64 y, .int .i64 z] 23)).cell? ⟨w.heap.size, 2, none⟩ = some (.int .i64 q) := X0.out.cell rfl
  go_wp2_with fail
  clear lX00 lX01 lX02
  generalize w1.alloc (.cells #[.int .i64 x, .int .i64 y, .int .i64 z] 23) = w2 at HW HO X0 X1 ⊢
  by_cases hk0 : k = 0
  · obtain ⟨ta, tb, tc, _⟩ := HT.out hk0
    have q1 : (k != 0) = false := by rw [hk0]; rfl
    have q2 : (z == r) = true := beq_iff_eq.2 tc
    have V1 := Lib.hid (show vldC (x, y, z) = true from decide_eq_true ta)
    have V2 := Lib.hid (show cmpC (x, y, z) (t, s, q) = 1 from by have := cmpC_cases (x, y, z) (t, s, q); have := cmpC_gt.2 tb; omega)
    clear ta tb tc hk0
    refine (rnext_k t s q now r x y z k _ HV.out HK.out).mono ?_
    rintro _ w3 ⟨rfl, hb⟩
    have HW := Lib.hid (HW.out.trans (hb.mono HW.out.size))
    have HO := Lib.hid (HO.out.below hb)
    have X0 := Lib.hid (X0.out.step hb)
    have X1 := Lib.hid (X1.out.step hb)
    clear hb
    have hb := box_below w3 (.cells #[.int .i64 x, .int .i64 y, .int .i64 z] 23)
    have HW := Lib.hid (HW.out.trans (hb.mono HW.out.size))
    have HO := Lib.hid (HO.out.below hb)
    have X0 := Lib.hid (X0.out.step hb)
    have X1 := Lib.hid (X1.out.step hb)
    clear hb
    have X2 : Hid (KbC (w3.alloc (.cells #[.int .i64 x, .int .i64 y, .int .i64 z] 23)) w3.heap.size (.cells #[.int .i64 x, .int .i64 y, .int .i64 z] 23)) := Lib.hid (kbc_new _ _)
    have lX00 : (w3.alloc (.cells #[.int .i64 x, .int .i64 y, .int .i64 z] 23)).cell? ⟨w.heap.size, 0, none⟩ = some (.int .i64 t) := X0.out.cell rfl
    have lX01 : (w3.alloc (.cells #[.int .i64 x, .int .i64 y, .int .i64 z] 23)).cell? ⟨w.heap.size, 1, none⟩ = some (.int .i64 s) := X0.out.cell rfl
    have lX02 : (w3.alloc (.cells #[.int .i64 x, .int .i64 y, .int .i64 z] 23)).cell? ⟨w.heap.size, 2, none⟩ = some (.int .i64 q) := X0.out.cell rfl
    have lX10 : (w3.alloc (.cells #[.int .i64 x, .int .i64 y, .int .i64 z] 23)).cell? ⟨w1.heap.size, 0, none⟩ = some (.int .i64 x) := X1.out.cell rfl
    have lX11 : (w3.alloc (.cells #[.int .i64 x, .int .i64 y, .int .i64 z] 23)).cell? ⟨w1.heap.size, 1, none⟩ = some (.int .i64 y) := X1.out.cell rfl
    have lX12 : (w3.alloc (.cells #[.int .i64 x, .int .i64 y, .int .i64 z] 23)).cell? ⟨w1.heap.size, 2, none⟩ = some (.int .i64 z) := X1.out.cell rfl
    have lX20 : (w3.alloc (.cells #[.int .i64 x, .int .i64 y, .int .i64 z] 23)).cell? ⟨w3.heap.size, 0, none⟩ = some (.int .i64 x) := X2.out.cell rfl
    have lX21 : (w3.alloc (.cells #[.int .i64 x, .int .i64 y, .int .i64 z] 23)).cell? ⟨w3.heap.size, 1, none⟩ = some (.int .i64 y) := X2.out.cell rfl
    have lX22 : (w3.alloc (.cells #[.int .i64 x, .int .i64 y, .int .i64 z] 23)).cell? ⟨w3.heap.size, 2, none⟩ = some (.int .i64 z) := X2.out.cell rfl
    go_wp2_with fail
    clear lX00 lX01 lX02 lX10 lX11 lX12 lX20 lX21 lX22
    generalize w3.alloc (.cells #[.int .i64 x, .int .i64 y, .int .i64 z] 23) = w4 at HW HO X0 X1 X2 ⊢
    refine (vldb_k x y z true _ V1.out).mono ?_
    rintro _ w5 ⟨rfl, hb⟩
    have HW := Lib.hid (HW.out.trans (hb.mono HW.out.size))
    have HO := Lib.hid (HO.out.below hb)
    have X0 := Lib.hid (X0.out.step hb)
    have X1 := Lib.hid (X1.out.step hb)
    have X2 := Lib.hid (X2.out.step hb)
    clear hb
    have lX10 : w5.cell? ⟨w1.heap.size, 0, none⟩ = some (.int .i64 x) := X1.out.cell rfl
    have lX11 : w5.cell? ⟨w1.heap.size, 1, none⟩ = some (.int .i64 y) := X1.out.cell rfl
    have lX12 : w5.cell? ⟨w1.heap.size, 2, none⟩ = some (.int .i64 z) := X1.out.cell rfl
    have lX00 : w5.cell? ⟨w.heap.size, 0, none⟩ = some (.int .i64 t) := X0.out.cell rfl
    have lX01 : w5.cell? ⟨w.heap.size, 1, none⟩ = some (.int .i64 s) := X0.out.cell rfl
    have lX02 : w5.cell? ⟨w.heap.size, 2, none⟩ = some (.int .i64 q) := X0.out.cell rfl
    go_wp2_with fail
    refine (cmp_k x y z t s q 1 _ V2.out).mono ?_
    rintro _ w6 ⟨rfl, hb⟩
    clear lX10 lX11 lX12 lX00 lX01 lX02
    have HW := Lib.hid (HW.out.trans (hb.mono HW.out.size))
    have HO := Lib.hid (HO.out.below hb)
    have X0 := Lib.hid (X0.out.step hb)
    have X1 := Lib.hid (X1.out.step hb)
    have X2 := Lib.hid (X2.out.step hb)
    clear hb
    have lX10 : w6.cell? ⟨w1.heap.size, 0, none⟩ = some (.int .i64 x) := X1.out.cell rfl
    have lX11 : w6.cell? ⟨w1.heap.size, 1, none⟩ = some (.int .i64 y) := X1.out.cell rfl
    have lX12 : w6.cell? ⟨w1.heap.size, 2, none⟩ = some (.int .i64 z) := X1.out.cell rfl
    go_wp2_with fail
    refine (live_s _ HO.out).mono ?_
    rintro _ w7 ⟨rfl, hb⟩
    clear lX10 lX11 lX12
    have HW := Lib.hid (HW.out.trans (hb.mono HW.out.size))
    have HO := Lib.hid (HO.out.below hb)
    have X0 := Lib.hid (X0.out.step hb)
    have X1 := Lib.hid (X1.out.step hb)
    have X2 := Lib.hid (X2.out.step hb)
    clear hb
    go_wp2_with fail
    go_ret
    exact ⟨rfl, HW.out⟩
  · have q1 : (k != 0) = true := bne_iff_ne.2 hk0
    clear hk0
    refine (rnext_k t s q now r x y z k _ HV.out HK.out).mono ?_
    rintro _ w3 ⟨rfl, hb⟩
    have HW := Lib.hid (HW.out.trans (hb.mono HW.out.size))
    have HO := Lib.hid (HO.out.below hb)
    have X0 := Lib.hid (X0.out.step hb)
    have X1 := Lib.hid (X1.out.step hb)
    clear hb
    have hb := box_below w3 (.cells #[.int .i64 x, .int .i64 y, .int .i64 z] 23)
    have HW := Lib.hid (HW.out.trans (hb.mono HW.out.size))
    have HO := Lib.hid (HO.out.below hb)
    have X0 := Lib.hid (X0.out.step hb)
    have X1 := Lib.hid (X1.out.step hb)
    clear hb
    have X2 : Hid (KbC (w3.alloc (.cells #[.int .i64 x, .int .i64 y, .int .i64 z] 23)) w3.heap.size (.cells #[.int .i64 x, .int .i64 y, .int .i64 z] 23)) := Lib.hid (kbc_new _ _)
    have lX00 : (w3.alloc (.cells #[.int .i64 x, .int .i64 y, .int .i64 z] 23)).cell? ⟨w.heap.size, 0, none⟩ = some (.int .i64 t) := X0.out.cell rfl
    have lX01 : (w3.alloc (.cells #[.int .i64 x, .int .i64 y, .int .i64 z] 23)).cell? ⟨w.heap.size, 1, none⟩ = some (.int .i64 s) := X0.out.cell rfl
    have lX02 : (w3.alloc (.cells #[.int .i64 x, .int .i64 y, .int .i64 z] 23)).cell? ⟨w.heap.size, 2, none⟩ = some (.int .i64 q) := X0.out.cell rfl
    have lX10 : (w3.alloc (.cells #[.int .i64 x, .int .i64 y, .int .i64 z] 23)).cell? ⟨w1.heap.size, 0, none⟩ = some (.int .i64 x) := X1.out.cell rfl
    have lX11 : (w3.alloc (.cells #[.int .i64 x, .int .i64 y, .int .i64 z] 23)).cell? ⟨w1.heap.size, 1, none⟩ = some (.int .i64 y) := X1.out.cell rfl
    have lX12 : (w3.alloc (.cells #[.int .i64 x, .int .i64 y, .int .i64 z] 23)).cell? ⟨w1.heap.size, 2, none⟩ = some (.int .i64 z) := X1.out.cell rfl
    have lX20 : (w3.alloc (.cells #[.int .i64 x, .int .i64 y, .int .i64 z] 23)).cell? ⟨w3.heap.size, 0, none⟩ = some (.int .i64 x) := X2.out.cell rfl
    have lX21 : (w3.alloc (.cells #[.int .i64 x, .int .i64 y, .int .i64 z] 23)).cell? ⟨w3.heap.size, 1, none⟩ = some (.int .i64 y) := X2.out.cell rfl
    have lX22 : (w3.alloc (.cells #[.int .i64 x, .int .i64 y, .int .i64 z] 23)).cell? ⟨w3.heap.size, 2, none⟩ = some (.int .i64 z) := X2.out.cell rfl
    go_wp2_with fail
    clear lX00 lX01 lX02 lX10 lX11 lX12 lX20 lX21 lX22
    generalize w3.alloc (.cells #[.int .i64 x, .int .i64 y, .int .i64 z] 23) = w4 at HW HO X0 X1 X2 ⊢
    refine (live_s _ HO.out).mono ?_
    rintro _ w5 ⟨rfl, hb⟩
    have HW := Lib.hid (HW.out.trans (hb.mono HW.out.size))
    have HO := Lib.hid (HO.out.below hb)
    have X0 := Lib.hid (X0.out.step hb)
    have X1 := Lib.hid (X1.out.step hb)
    have X2 := Lib.hid (X2.out.step hb)
    clear hb
    go_wp2_with fail
    go_ret
    exact ⟨rfl, HW.out⟩

theorem nexts_types : ∀ t ∈ [23, 3, 3], Tryd.prog.readableRec t = true ∧ t < Tryd.prog.types.size := by
  have h : ([23, 3, 3].all fun t => Tryd.prog.readableRec t && decide (t < Tryd.prog.types.size)) = true := by kernel_rfl
  intro t ht
  have := List.all_eq_true.1 h t ht
  simpa using this

set_option maxRecDepth 100000 in
theorem nexts_contract (H : Type) (enc : TypeId × Value → H) (W : World) (base : Nat) (args : Array Value) (ds gs : List (DataW H)) (before : List MemPlace)
    (hval : ∀ (j : Nat) t v, Tryd.f5.params[j]? = some t → args[j]? = some v → Value.okWide Tryd.prog W .any base t v)
    (hW : DataW.Whole enc Tryd.prog Tryd.f5.params.toList Rows.csnNextSpec.vars false W args.toList ds gs before) (hL : laidMetH Tryd.prog Rows.csnNextRow.laid W) (hsh : W.ShapedOpen Tryd.prog) :
    Calls Tryd.prog 5 args W fun e W' => ∃ v, e = .returned v ∧ Rows.csnNextSpec.post enc Tryd.prog Tryd.f5 false true false false W args v W' := by
  have hW' := hW
  obtain ⟨p, q, hA0, hV, rfl, hfz, hnd⟩ := hW
  have hA : DataW.TrodAll enc Tryd.prog W 0 (fun _ => true) true Tryd.f5.params.toList args.toList ds p := hA0
  obtain ⟨rfl, rfl⟩ := trodVars_none hV
  simp only [List.append_nil] at hW'
  have hlt : ∀ x ∈ p, x.block < W.heap.size := fun x hx => by simpa using hW'.lt x hx
  have fin : ∀ W', Below W.heap.size W W' → DataW.TrodAll enc Tryd.prog W' 0 (fun b => decide (b < W.heap.size)) true [23, 3, 3] args.toList ds p := fun W' hb => by
    rw [Tryd.params5] at hA
    exact trodAll_below hb _ _ _ _ nexts_types hA hlt
  clear hA0
  rw [Tryd.params5] at hA hval
  obtain ⟨v0, vs0, d0, ds0, p0, q0, hargs, rfl, hp0, h0, r0⟩ := trodAll_cons hA
  obtain ⟨v1, vs1, d1, ds1, p1, q1, rfl, rfl, hp1, h1, r1⟩ := trodAll_cons r0
  obtain ⟨v2, vs2, d2, ds2, p2, q2, rfl, rfl, hp2, h2, r2⟩ := trodAll_cons r1
  obtain ⟨rfl, rfl, rfl⟩ := trodAll_nil r2
  obtain rfl : args = #[v0, v1, v2] := by cases args; simp_all
  obtain ⟨last, rfl⟩ := open_cn (hval 0 23 v0 rfl rfl) h0
  obtain ⟨now, rfl, rfl, rfl, hs1⟩ := open_int Tryd.underlying3 (hval 1 3 v1 rfl rfl) h1
  obtain ⟨r, rfl, rfl, rfl, hs2⟩ := open_int Tryd.underlying3 (hval 2 3 v2 rfl rfl) h2
  refine (nexts_s last now r W hs1 hs2 (wok_of hL hsh)).mono fun e W' ⟨he, hb⟩ => ?_
  subst he
  exact ⟨_, rfl, _, _, _, [], p, [], hW', trodAll_mk1 (shut_bool Tryd.underlying4 _), fin W' hb, rfl, hb.frame _, fun h => by cases h⟩

set_option maxRecDepth 100000 in
theorem nexts_lifted (os : Os) (started : os.Started) (H : Type) (enc : TypeId × Value → H) (F : Stop.Interp) :
    ReturnsInHanded {} Tryd.checked os 5 .any ((OpenSpec.ofChange Rows.csnNextSpec).preRow enc Tryd.prog Tryd.f5 Rows.csnNextRow.domain false Rows.csnNextRow.laid) (((OpenSpec.ofChange Rows.csnNextSpec).at F).post enc Tryd.prog Tryd.f5 false true false false) := by
  refine returnsInHanded_of_row (C := Tryd.checked) (s := OpenSpec.ofChange Rows.csnNextSpec) own started (by kernel_rfl) Tryd.func5
    (witness_row (enc := enc) (C := Tryd.checked) false (World.laidAll Tryd.prog os Rows.csnNextRow.laid) #[.agg #[.int .i64 0, .int .i64 0, .int .i64 0], .int .i64 0, .int .i64 0] (World.laidAll_os _ _ _)
      (World.shaped_of_ZipB (by kernel_rfl) (by kernel_rfl)) (by kernel_rfl)
      (OpenSpec.preRow_of_cond 8 (x := ([.agg [.lit (.int .i64 0), .lit (.int .i64 0), .lit (.int .i64 0)], .lit (.int .i64 0), .lit (.int .i64 0)], [], [])) (by kernel_rfl) (by kernel_rfl) (fun k hk => by cases hk) (by kernel_rfl)
        (by rw [MakeChecks.laidMetH_plain _ _ _ (by kernel_rfl)]; exact laidMet_laidAll _ (by kernel_rfl) (by kernel_rfl)))) ?_
  intro W base args ds gs before hval hW _ _ _ hL hsh _
  exact nexts_contract H enc W base args ds gs before hval hW hL hsh

set_option maxRecDepth 100000 in
theorem nexts_said : Rows.CsnNextSaid :=
  OpenClaim.holds_of_cond 5 Tryd.f5 rfl rfl rfl rfl rfl rfl rfl ⟨rfl, rfl, rfl, rfl, rfl⟩ rfl rfl rfl rfl rfl (by kernel_rfl) Tryd.func5 (by kernel_rfl)
    (of_decide_eq_true (by kernel_rfl)) (by unfold Func.isWrapper; first | (rw [if_pos (by decide +kernel)]; kernel_rfl) | (rw [if_neg (by decide +kernel)]; exact ⟨rfl, rfl⟩))
    (fun os started H enc _ F => by rw [OpenClaim.pre_eq_preRow]; exact nexts_lifted os started H enc F)

set_option maxRecDepth 100000 in
theorem nexts_plain (f : FuncId) (fn : Func) (hf : Tryd.pinned.checked.prog.funcNamed "identity/identitylaw15.CsnNext" = some f) (hfn : Tryd.pinned.checked.prog.funcs[f]? = some fn) :
    false = Tryd.pinned.checked.prog.looks [] ∧ ∀ (j : Nat) t, fn.params[j]? = some t → Tryd.pinned.checked.prog.wantsStandIn t = false := by
  obtain rfl : f = 5 := Option.some.inj ((show Tryd.prog.funcNamed "identity/identitylaw15.CsnNext" = some 5 by kernel_rfl).symm.trans hf) |>.symm
  obtain rfl : fn = Tryd.f5 := (Option.some.inj (Tryd.func5.symm.trans hfn)).symm
  refine ⟨by kernel_rfl, fun j t ht => ?_⟩
  rw [Tryd.params5] at ht
  have hm : t ∈ [23, 3, 3] := by simpa using Array.mem_of_getElem? ht
  have hall : ([23, 3, 3].all fun u => !Tryd.prog.wantsStandIn u) = true := by kernel_rfl
  exact (show Tryd.prog.wantsStandIn t = false by simpa using List.all_eq_true.1 hall t hm)

/-- THE CARD -/
theorem nexts_card : Rows.CsnNextCardSaid :=
  Claim7.holds_tied_plain_at .later [] _ _ _ _ nexts_said (fun _ h => by cases h) (by kernel_rfl) (fun _ h => by cases h) csnNext_row_tie rfl ⟨rfl, rfl⟩ (by kernel_rfl) rfl nexts_plain (by kernel_rfl)
end Go.Proofs.YtcnhkoijphfibaaDoor
