/-
  Proved: identitylaw02.CodecInts returns true for every int and every string (the tied card). No condition beyond the row's own.
-/
import Derived.Test.YtelddbgnhfhkiabDoorLawFrameB
import Derived.Test.YtelddbgnhfhkiabDoorCodecRInt
import Derived.Test.YtelddbgnhfhkiabDoorCodecRInt2
set_option linter.unusedVariables false
set_option linter.unusedSimpArgs false
set_option linter.unnecessarySimpa false
namespace Go.Proofs.YtelddbgnhfhkiabDoor
open Go.ChangeShapes Go.WideShapes Go.ChangeAt Go.RowKit Go.PlainAid
open Go.ChangeMaps (open_string shut_string)

theorem int_range {n : Int} (h : (Lit.int .i64 n).wf = true) : -9223372036854775808 ≤ n ∧ n ≤ 9223372036854775807 := by
  unfold Lit.wf at h
  rw [Bool.and_eq_true, decide_eq_true_iff, decide_eq_true_iff] at h
  exact h
theorem rreadInt_k (s : ByteArray) (n e0 : Int) (w : World) (hs : s.size ≤ 1000000000) (h : readI s.data.toList = (n, e0)) :
    Calls Tryd.prog 14 #[.string s] w fun e w' => e = .returned (.tuple #[.int .i64 n, .int .i64 e0]) ∧ w = w' := by
  have := rreadInt_s s w hs; rw [h] at this; exact this
theorem rint_k (n : Int) (r : ByteArray) (w : World) (h0 : -9223372036854775808 ≤ n) (h1 : n ≤ 9223372036854775807) (h : ofL (Lib.itoa n) = r) :
    Calls Tryd.prog 15 #[.int .i64 n] w fun e w' => e = .returned (.string r) ∧ Below w.heap.size w w' := by
  subst h; exact rint_s n w h0 h1
theorem itoa_size (n : Int) (h0 : -9223372036854775808 ≤ n) (h1 : n ≤ 9223372036854775807) : (ofL (Lib.itoa n)).size ≤ 1000 := by
  show (Lib.itoa n).length ≤ 1000
  by_cases hneg : n < 0
  · obtain ⟨u, rfl⟩ : ∃ u : Nat, n = -(u : Int) := ⟨n.natAbs, by omega⟩
    have := intAt_len (.inl ⟨rfl, rfl⟩ : IntAt u 0 (Lib.decDigits u)) (by omega)
    rw [Lib.itoa_neg u (by omega), List.length_cons]; omega
  · obtain ⟨u, rfl⟩ : ∃ u : Nat, n = u := ⟨n.toNat, by omega⟩
    have := intAt_len (.inl ⟨rfl, rfl⟩ : IntAt u 0 (Lib.decDigits u)) (by omega)
    rw [Lib.itoa_nonneg]; omega

set_option maxRecDepth 100000 in
set_option maxHeartbeats 4000000 in
theorem ints_s (n : Int) (s : ByteArray) (w : World) (hn : (Lit.int .i64 n).wf = true) (ho : COk w) :
    Calls Tryd.prog 4 #[.int .i64 n, .string s] w fun e w' => e = .returned (.bool true) ∧ Below w.heap.size w w' := by
  have B0 := Below.refl w.heap.size w
  have O0 := ho
  obtain ⟨hn0, hn1⟩ := int_range hn
  clear hn
  by_cases h1 : 300 < s.size
  · skip
    go_enter Tryd.func4, Tryd.ntmps4
    go_wp2_with fail
    refine (live_s _ O0).mono ?_
    rintro e w1 ⟨rfl, hb⟩
    have B1 := B0.trans (hb.mono B0.size)
    have O1 := O0.below hb
    clear hb
    go_wp2_with fail
    go_ret
    exact ⟨rfl, B1⟩
  · obtain ⟨b, hb⟩ : ∃ b, b = ofL (Lib.itoa n) := ⟨_, rfl⟩
    have hbz : b.size ≤ 1000 := by rw [hb]; exact itoa_size n hn0 hn1
    have HB := Lib.hid hb.symm
    have HR := Lib.hid (show readI b.data.toList = (n, 0) by rw [hb]; exact readI_itoa n hn0 hn1)
    clear hb
    rcases readI_cases s.data.toList with ⟨v, hv, hi, v0, v1⟩ | hv | hv
    · have HV := Lib.hid hv
      have HI := Lib.hid (show ofL (Lib.itoa v) = s by rw [hi]; exact Lib.mk_data s)
      clear hv hi
      go_enter Tryd.func4, Tryd.ntmps4
      go_wp2_with fail
      refine (int_k n b _ hn0 hn1 O0.2 HB.out).mono ?_
      rintro e w1 ⟨rfl, hb⟩
      have B1 := B0.trans (hb.mono B0.size)
      have O1 := O0.below hb
      clear hb
      go_wp2_with fail
      refine (readInt_k b n 0 _ (by omega) O1.2 HR.out).mono ?_
      rintro e w2 ⟨rfl, hb⟩
      have B2 := B1.trans (hb.mono B1.size)
      have O2 := O1.below hb
      clear hb
      go_wp2_with fail
      refine (readInt_k s v 0 _ (by omega) O2.2 HV.out).mono ?_
      rintro e w3 ⟨rfl, hb⟩
      have B3 := B2.trans (hb.mono B2.size)
      have O3 := O2.below hb
      clear hb
      go_wp2_with fail
      refine (rreadInt_k s v 0 _ (by omega) HV.out).mono ?_
      rintro e w' ⟨rfl, rfl⟩
      go_wp2_with fail
      refine (int_k n b _ hn0 hn1 O3.2 HB.out).mono ?_
      rintro e w4 ⟨rfl, hb⟩
      have B4 := B3.trans (hb.mono B3.size)
      have O4 := O3.below hb
      clear hb
      go_wp2_with fail
      refine (rint_k n b _ hn0 hn1 HB.out).mono ?_
      rintro e w5 ⟨rfl, hb⟩
      have B5 := B4.trans (hb.mono B4.size)
      have O5 := O4.below hb
      clear hb
      go_wp2_with fail
      refine (int_k v s _ v0 v1 O5.2 HI.out).mono ?_
      rintro e w6 ⟨rfl, hb⟩
      have B6 := B5.trans (hb.mono B5.size)
      have O6 := O5.below hb
      clear hb
      go_wp2_with fail
      refine (live_s _ O6).mono ?_
      rintro e w7 ⟨rfl, hb⟩
      have B7 := B6.trans (hb.mono B6.size)
      have O7 := O6.below hb
      clear hb
      go_wp2_with fail
      go_ret
      exact ⟨rfl, B7⟩
    · have HV := Lib.hid hv
      clear hv
      go_enter Tryd.func4, Tryd.ntmps4
      go_wp2_with fail
      refine (int_k n b _ hn0 hn1 O0.2 HB.out).mono ?_
      rintro e w1 ⟨rfl, hb⟩
      have B1 := B0.trans (hb.mono B0.size)
      have O1 := O0.below hb
      clear hb
      go_wp2_with fail
      refine (readInt_k b n 0 _ (by omega) O1.2 HR.out).mono ?_
      rintro e w2 ⟨rfl, hb⟩
      have B2 := B1.trans (hb.mono B1.size)
      have O2 := O1.below hb
      clear hb
      go_wp2_with fail
      refine (readInt_k s 0 27 _ (by omega) O2.2 HV.out).mono ?_
      rintro e w3 ⟨rfl, hb⟩
      have B3 := B2.trans (hb.mono B2.size)
      have O3 := O2.below hb
      clear hb
      go_wp2_with fail
      refine (rreadInt_k s 0 27 _ (by omega) HV.out).mono ?_
      rintro e w' ⟨rfl, rfl⟩
      go_wp2_with fail
      refine (int_k n b _ hn0 hn1 O3.2 HB.out).mono ?_
      rintro e w4 ⟨rfl, hb⟩
      have B4 := B3.trans (hb.mono B3.size)
      have O4 := O3.below hb
      clear hb
      go_wp2_with fail
      refine (rint_k n b _ hn0 hn1 HB.out).mono ?_
      rintro e w5 ⟨rfl, hb⟩
      have B5 := B4.trans (hb.mono B4.size)
      have O5 := O4.below hb
      clear hb
      go_wp2_with fail
      refine (live_s _ O5).mono ?_
      rintro e w6 ⟨rfl, hb⟩
      have B6 := B5.trans (hb.mono B5.size)
      have O6 := O5.below hb
      clear hb
      go_wp2_with fail
      go_ret
      exact ⟨rfl, B6⟩
    · have HV := Lib.hid hv
      clear hv
      go_enter Tryd.func4, Tryd.ntmps4
      go_wp2_with fail
      refine (int_k n b _ hn0 hn1 O0.2 HB.out).mono ?_
      rintro e w1 ⟨rfl, hb⟩
      have B1 := B0.trans (hb.mono B0.size)
      have O1 := O0.below hb
      clear hb
      go_wp2_with fail
      refine (readInt_k b n 0 _ (by omega) O1.2 HR.out).mono ?_
      rintro e w2 ⟨rfl, hb⟩
      have B2 := B1.trans (hb.mono B1.size)
      have O2 := O1.below hb
      clear hb
      go_wp2_with fail
      refine (readInt_k s 0 4 _ (by omega) O2.2 HV.out).mono ?_
      rintro e w3 ⟨rfl, hb⟩
      have B3 := B2.trans (hb.mono B2.size)
      have O3 := O2.below hb
      clear hb
      go_wp2_with fail
      refine (rreadInt_k s 0 4 _ (by omega) HV.out).mono ?_
      rintro e w' ⟨rfl, rfl⟩
      go_wp2_with fail
      refine (int_k n b _ hn0 hn1 O3.2 HB.out).mono ?_
      rintro e w4 ⟨rfl, hb⟩
      have B4 := B3.trans (hb.mono B3.size)
      have O4 := O3.below hb
      clear hb
      go_wp2_with fail
      refine (rint_k n b _ hn0 hn1 HB.out).mono ?_
      rintro e w5 ⟨rfl, hb⟩
      have B5 := B4.trans (hb.mono B4.size)
      have O5 := O4.below hb
      clear hb
      go_wp2_with fail
      refine (live_s _ O5).mono ?_
      rintro e w6 ⟨rfl, hb⟩
      have B6 := B5.trans (hb.mono B5.size)
      have O6 := O5.below hb
      clear hb
      go_wp2_with fail
      go_ret
      exact ⟨rfl, B6⟩

theorem ints_types : ∀ t ∈ [3, 9], Tryd.prog.readableRec t = true ∧ t < Tryd.prog.types.size := by
  have h : ([3, 9].all fun t => Tryd.prog.readableRec t && decide (t < Tryd.prog.types.size)) = true := by kernel_rfl
  intro t ht
  have := List.all_eq_true.1 h t ht
  simpa using this

set_option maxRecDepth 100000 in
theorem ints_contract (H : Type) (enc : TypeId × Value → H) (W : World) (base : Nat) (args : Array Value) (ds gs : List (DataW H)) (before : List MemPlace)
    (hval : ∀ (j : Nat) t v, Tryd.f4.params[j]? = some t → args[j]? = some v → Value.okWide Tryd.prog W .any base t v)
    (hW : DataW.Whole enc Tryd.prog Tryd.f4.params.toList Rows.codecIntsSpec.vars false W args.toList ds gs before) (hL : laidMetH Tryd.prog Rows.codecIntsRow.laid W) (hsh : W.ShapedOpen Tryd.prog) :
    Calls Tryd.prog 4 args W fun e W' => ∃ v, e = .returned v ∧ Rows.codecIntsSpec.post enc Tryd.prog Tryd.f4 false true false false W args v W' := by
  have hW' := hW
  obtain ⟨p, q, hA0, hV, rfl, hfz, hnd⟩ := hW
  have hA : DataW.TrodAll enc Tryd.prog W 0 (fun _ => true) true Tryd.f4.params.toList args.toList ds p := hA0
  obtain ⟨rfl, rfl⟩ := trodVars_none hV
  simp only [List.append_nil] at hW'
  have hlt : ∀ x ∈ p, x.block < W.heap.size := fun x hx => by simpa using hW'.lt x hx
  have fin : ∀ W', Below W.heap.size W W' → DataW.TrodAll enc Tryd.prog W' 0 (fun b => decide (b < W.heap.size)) true [3, 9] args.toList ds p := fun W' hb => by
    rw [Tryd.params4] at hA
    exact trodAll_below hb _ _ _ _ ints_types hA hlt
  clear hA0
  rw [Tryd.params4] at hA hval
  obtain ⟨v0, vs0, d0, ds0, p0, q0, hargs, rfl, hp0, h0, r0⟩ := trodAll_cons hA
  obtain ⟨v1, vs1, d1, ds1, p1, q1, rfl, rfl, hp1, h1, r1⟩ := trodAll_cons r0
  obtain ⟨rfl, rfl, rfl⟩ := trodAll_nil r1
  obtain rfl : args = #[v0, v1] := by cases args; simp_all
  obtain ⟨n, rfl, rfl, rfl, hs0⟩ := open_int Tryd.underlying3 (hval 0 3 v0 rfl rfl) h0
  obtain ⟨s, rfl, rfl, rfl, hs1⟩ := open_string Tryd.underlying9 (hval 1 9 v1 rfl rfl) h1
  refine (ints_s n s W hs0 (cok hL hsh)).mono fun e W' ⟨he, hb⟩ => ?_
  subst he
  exact ⟨_, rfl, _, _, _, [], p, [], hW', trodAll_mk1 (shut_bool Tryd.underlying4 _), fin W' hb, rfl, hb.frame _, fun h => by cases h⟩

set_option maxRecDepth 100000 in
theorem ints_lifted (os : Os) (started : os.Started) (H : Type) (enc : TypeId × Value → H) (F : Stop.Interp) :
    ReturnsInHanded {} Tryd.checked os 4 .any ((OpenSpec.ofChange Rows.codecIntsSpec).preRow enc Tryd.prog Tryd.f4 Rows.codecIntsRow.domain false Rows.codecIntsRow.laid) (((OpenSpec.ofChange Rows.codecIntsSpec).at F).post enc Tryd.prog Tryd.f4 false true false false) := by
  refine returnsInHanded_of_row (C := Tryd.checked) (s := OpenSpec.ofChange Rows.codecIntsSpec) own started (by kernel_rfl) Tryd.func4
    (witness_row (enc := enc) (C := Tryd.checked) false (World.laidAll Tryd.prog os Rows.codecIntsRow.laid) #[.int .i64 0, .string ⟨#[]⟩] (World.laidAll_os _ _ _)
      (World.shaped_of_ZipB (by kernel_rfl) (by kernel_rfl)) (by kernel_rfl)
      (OpenSpec.preRow_of_cond 8 (x := ([.lit (.int .i64 0), .lit (.string [])], [], [])) (by kernel_rfl) (by kernel_rfl) (fun k hk => by cases hk) (by kernel_rfl)
        (by rw [MakeChecks.laidMetH_plain _ _ _ (by kernel_rfl)]; exact laidMet_laidAll _ (by kernel_rfl) (by kernel_rfl)))) ?_
  intro W base args ds gs before hval hW _ _ _ hL hsh _
  exact ints_contract H enc W base args ds gs before hval hW hL hsh

set_option maxRecDepth 100000 in
theorem ints_said : Rows.CodecIntsSaid :=
  OpenClaim.holds_of_cond 4 Tryd.f4 rfl rfl rfl rfl rfl rfl rfl ⟨rfl, rfl, rfl, rfl, rfl⟩ rfl rfl rfl rfl rfl (by kernel_rfl) Tryd.func4 (by kernel_rfl)
    (of_decide_eq_true (by kernel_rfl)) (by unfold Func.isWrapper; first | (rw [if_pos (by decide +kernel)]; kernel_rfl) | (rw [if_neg (by decide +kernel)]; exact ⟨rfl, rfl⟩))
    (fun os started H enc _ F => by rw [OpenClaim.pre_eq_preRow]; exact ints_lifted os started H enc F)

set_option maxRecDepth 100000 in
theorem ints_plain (f : FuncId) (fn : Func) (hf : Tryd.pinned.checked.prog.funcNamed "identity/identitylaw02.CodecInts" = some f) (hfn : Tryd.pinned.checked.prog.funcs[f]? = some fn) :
    true = Tryd.pinned.checked.prog.looks [] ∧ ∀ (j : Nat) t, fn.params[j]? = some t → Tryd.pinned.checked.prog.wantsStandIn t = false := by
  obtain rfl : f = 4 := Option.some.inj ((show Tryd.prog.funcNamed "identity/identitylaw02.CodecInts" = some 4 by kernel_rfl).symm.trans hf) |>.symm
  obtain rfl : fn = Tryd.f4 := (Option.some.inj (Tryd.func4.symm.trans hfn)).symm
  refine ⟨by kernel_rfl, fun j t ht => ?_⟩
  rw [Tryd.params4] at ht
  have hm : t ∈ [3, 9] := by simpa using Array.mem_of_getElem? ht
  have hall : ([3, 9].all fun u => !Tryd.prog.wantsStandIn u) = true := by kernel_rfl
  exact (show Tryd.prog.wantsStandIn t = false by simpa using List.all_eq_true.1 hall t hm)

/-- THE CARD -/
theorem ints_card : Rows.CodecIntsCardSaid :=
  Claim7.holds_tied_plain_at .later [] _ _ _ _ ints_said (fun _ h => by cases h) (by kernel_rfl) (fun _ h => by cases h) codecInts_row_tie rfl ⟨rfl, rfl⟩ (by kernel_rfl) rfl ints_plain (by kernel_rfl)
end Go.Proofs.YtelddbgnhfhkiabDoor
