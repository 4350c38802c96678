/-
  Proved: identitylaw02.CodecJoins returns true for every two slices of strings (the tied card). No condition beyond the row's own.
-/
import Derived.Test.YtelddbgnhfhkiaaDoorLawFrameB
import Derived.Test.YtelddbgnhfhkiaaDoorCodecRJoin
import Derived.Test.YtelddbgnhfhkiaaDoorCodecQ
set_option linter.unusedVariables false
set_option linter.unusedSimpArgs false
set_option linter.unnecessarySimpa false
namespace Go.Proofs.YtelddbgnhfhkiaaDoor
open Go.ChangeShapes Go.WideShapes Go.ChangeAt Go.RowKit Go.PlainAid
open Go.ChangeMaps (open_string shut_string)

theorem great_k (ao : Option Addr) (n cap : Nat) (ps : List ByteArray) (r : Bool) (w : World) (h : StrsAt w ao n cap ps) (hr : greatB ps 12 100 = r) :
    Calls Tryd.prog 38 #[.slice ao n cap, .int .i64 12, .int .i64 100] w fun e w' => e = .returned (.bool r) ∧ w = w' := by
  subst hr; exact great_s ao n cap ps 12 100 w h (by decide)
theorem same_k (ao bo : Option Addr) (n m cap dap : Nat) (ps qs : List ByteArray) (r : Bool) (w : World) (h : StrsAt w ao n cap ps) (k : StrsAt w bo m dap qs) (hr : decide (ps = qs) = r) :
    Calls Tryd.prog 42 #[.slice ao n cap, .slice bo m dap] w fun e w' => e = .returned (.bool r) ∧ Below w.heap.size w w' := by
  subst hr; exact same_s ao bo n m cap dap ps qs w h k
theorem joinS_le (ps : List ByteArray) (m n : Nat) (hp : ∀ j, j < ps.length → (partAt ps j).size ≤ m) (hn : ps.length ≤ n) : (joinS ps).size ≤ n * (3 * m + 1) + 3 := by
  have h1 := bar_len 124 (3 * m) ((dataL ps).map escL) (fun p hq => by
    obtain ⟨q, hq1, rfl⟩ := List.mem_map.1 hq
    unfold dataL at hq1
    obtain ⟨x, hx, rfl⟩ := List.mem_map.1 hq1
    have := great_all hp x hx
    have h3 := escL_length x.data.toList
    rw [← Lib.size_eq] at h3
    omega)
  have h2 : ((dataL ps).map escL).length ≤ n := by simp [dataL]; exact hn
  have h3 := Nat.mul_le_mul_right (3 * m + 1) h2
  show (joinL (dataL ps)).length ≤ _
  unfold joinL
  split
  · show 1 ≤ _; omega
  · split
    · show 3 ≤ _; omega
    · omega
theorem str_eq {a b : ByteArray} (h : a = b) : (a.toList == b.toList) = true := by rw [h]; exact beq_self_eq_true _
theorem str_ne {a b : ByteArray} (h : a ≠ b) : (a.toList == b.toList) = false := by
  rw [Lib.toList_data, Lib.toList_data]
  exact beq_false_of_ne fun e => h (by rw [← Lib.mk_data a, ← Lib.mk_data b, e])

set_option maxRecDepth 100000 in
set_option maxHeartbeats 4000000 in
theorem joins_s (ao : Option Addr) (n cap : Nat) (ps : List ByteArray) (bo : Option Addr) (m dap : Nat) (qs : List ByteArray) (w : World) (hs : StrsAt w ao n cap ps) (ht : StrsAt w bo m dap qs) (ho : COk w) :
    Calls Tryd.prog 12 #[.slice ao n cap, .slice bo m dap] w fun e w' => e = .returned (.bool true) ∧ Below w.heap.size w w' := by
  have B0 := Below.refl w.heap.size w
  have O0 := ho
  have S := hs
  have T := ht
  cases g1 : greatB ps 12 100 with
  | true =>
    go_enter Tryd.func12, Tryd.ntmps12
    go_wp2_with fail
    refine (great_k _ _ _ ps true _ S g1).mono ?_
    rintro e w' ⟨rfl, rfl⟩
    go_wp2_with fail
    refine (live_s _ O0).mono ?_
    rintro e w1 ⟨rfl, hb⟩
    have B1 := B0.trans (hb.mono B0.size)
    have O1 := O0.below hb
    clear hb
    go_wp2_with fail
    go_ret
    exact ⟨rfl, B1⟩
  | false =>
    cases g2 : greatB qs 12 100 with
    | true =>
      go_enter Tryd.func12, Tryd.ntmps12
      go_wp2_with fail
      refine (great_k _ _ _ ps false _ S g1).mono ?_
      rintro e w' ⟨rfl, rfl⟩
      go_wp2_with fail
      refine (great_k _ _ _ qs true _ T g2).mono ?_
      rintro e w' ⟨rfl, rfl⟩
      go_wp2_with fail
      refine (live_s _ O0).mono ?_
      rintro e w1 ⟨rfl, hb⟩
      have B1 := B0.trans (hb.mono B0.size)
      have O1 := O0.below hb
      clear hb
      go_wp2_with fail
      go_ret
      exact ⟨rfl, B1⟩
    | false =>
      obtain ⟨gn1, gp1⟩ := great_false g1
      obtain ⟨gn2, gp2⟩ := great_false g2
      have hjz : (joinS ps).size ≤ 1000000 := by have := joinS_le ps 100 12 gp1 gn1; omega
      by_cases hpq : ps = qs
      · have hq := str_eq (congrArg joinS hpq)
        have hd : decide (ps = qs) = true := decide_eq_true hpq
        clear hpq
        go_enter Tryd.func12, Tryd.ntmps12
        go_wp2_with fail
        refine (great_k _ _ _ ps false _ S g1).mono ?_
        rintro e w' ⟨rfl, rfl⟩
        go_wp2_with fail
        refine (great_k _ _ _ qs false _ T g2).mono ?_
        rintro e w' ⟨rfl, rfl⟩
        go_wp2_with fail
        refine (join_s _ _ _ ps _ S (by omega) (fun j hj => by have := gp1 j hj; omega)).mono ?_
        rintro e w1 ⟨rfl, hb⟩
        have B1 := B0.trans (hb.mono B0.size)
        have O1 := O0.below hb
        have S := S.below hb
        have T := T.below hb
        clear hb
        go_wp2_with fail
        refine (split_at (joinS ps) ps _ 0 _ hjz O1.1 ⟨(splS_join ps).1, (splS_join ps).2, S.1⟩).mono ?_
        rintro e w2 ⟨⟨ak, ck, rfl, K⟩, hb⟩
        have B2 := B1.trans (hb.mono B1.size)
        have O2 := O1.below hb
        have S := S.below hb
        have T := T.below hb
        clear hb
        go_wp2_with fail
        refine (join_s _ _ _ ps _ S (by omega) (fun j hj => by have := gp1 j hj; omega)).mono ?_
        rintro e w3 ⟨rfl, hb⟩
        have B3 := B2.trans (hb.mono B2.size)
        have O3 := O2.below hb
        have S := S.below hb
        have T := T.below hb
        have K := K.below hb
        clear hb
        go_wp2_with fail
        refine (rjoin_s _ _ _ ps _ S (by omega) (fun j hj => by have := gp1 j hj; omega)).mono ?_
        rintro e w4 ⟨rfl, hb⟩
        have B4 := B3.trans (hb.mono B3.size)
        have O4 := O3.below hb
        have S := S.below hb
        have T := T.below hb
        have K := K.below hb
        clear hb
        go_wp2_with fail
        refine (same_k _ _ _ _ _ _ ps ps true _ K S (decide_eq_true rfl)).mono ?_
        rintro e w5 ⟨rfl, hb⟩
        have B5 := B4.trans (hb.mono B4.size)
        have O5 := O4.below hb
        have S := S.below hb
        have T := T.below hb
        clear hb
        go_wp2_with fail
        refine (join_s _ _ _ ps _ S (by omega) (fun j hj => by have := gp1 j hj; omega)).mono ?_
        rintro e w6 ⟨rfl, hb⟩
        have B6 := B5.trans (hb.mono B5.size)
        have O6 := O5.below hb
        have S := S.below hb
        have T := T.below hb
        clear hb
        go_wp2_with fail
        refine (join_s _ _ _ qs _ T (by omega) (fun j hj => by have := gp2 j hj; omega)).mono ?_
        rintro e w7 ⟨rfl, hb⟩
        have B7 := B6.trans (hb.mono B6.size)
        have O7 := O6.below hb
        have S := S.below hb
        have T := T.below hb
        clear hb
        go_wp2_with fail
        refine (same_k _ _ _ _ _ _ ps qs true _ S T hd).mono ?_
        rintro e w8 ⟨rfl, hb⟩
        have B8 := B7.trans (hb.mono B7.size)
        have O8 := O7.below hb
        have S := S.below hb
        have T := T.below hb
        clear hb
        go_wp2_with fail
        refine (live_s _ O8).mono ?_
        rintro e w9 ⟨rfl, hb⟩
        have B9 := B8.trans (hb.mono B8.size)
        have O9 := O8.below hb
        clear hb
        go_wp2_with fail
        go_ret
        exact ⟨rfl, B9⟩
      · have hq := str_ne (fun e => hpq (joinS_inj e))
        have hd : decide (ps = qs) = false := decide_eq_false hpq
        clear hpq
        go_enter Tryd.func12, Tryd.ntmps12
        go_wp2_with fail
        refine (great_k _ _ _ ps false _ S g1).mono ?_
        rintro e w' ⟨rfl, rfl⟩
        go_wp2_with fail
        refine (great_k _ _ _ qs false _ T g2).mono ?_
        rintro e w' ⟨rfl, rfl⟩
        go_wp2_with fail
        refine (join_s _ _ _ ps _ S (by omega) (fun j hj => by have := gp1 j hj; omega)).mono ?_
        rintro e w1 ⟨rfl, hb⟩
        have B1 := B0.trans (hb.mono B0.size)
        have O1 := O0.below hb
        have S := S.below hb
        have T := T.below hb
        clear hb
        go_wp2_with fail
        refine (split_at (joinS ps) ps _ 0 _ hjz O1.1 ⟨(splS_join ps).1, (splS_join ps).2, S.1⟩).mono ?_
        rintro e w2 ⟨⟨ak, ck, rfl, K⟩, hb⟩
        have B2 := B1.trans (hb.mono B1.size)
        have O2 := O1.below hb
        have S := S.below hb
        have T := T.below hb
        clear hb
        go_wp2_with fail
        refine (join_s _ _ _ ps _ S (by omega) (fun j hj => by have := gp1 j hj; omega)).mono ?_
        rintro e w3 ⟨rfl, hb⟩
        have B3 := B2.trans (hb.mono B2.size)
        have O3 := O2.below hb
        have S := S.below hb
        have T := T.below hb
        have K := K.below hb
        clear hb
        go_wp2_with fail
        refine (rjoin_s _ _ _ ps _ S (by omega) (fun j hj => by have := gp1 j hj; omega)).mono ?_
        rintro e w4 ⟨rfl, hb⟩
        have B4 := B3.trans (hb.mono B3.size)
        have O4 := O3.below hb
        have S := S.below hb
        have T := T.below hb
        have K := K.below hb
        clear hb
        go_wp2_with fail
        refine (same_k _ _ _ _ _ _ ps ps true _ K S (decide_eq_true rfl)).mono ?_
        rintro e w5 ⟨rfl, hb⟩
        have B5 := B4.trans (hb.mono B4.size)
        have O5 := O4.below hb
        have S := S.below hb
        have T := T.below hb
        clear hb
        go_wp2_with fail
        refine (join_s _ _ _ ps _ S (by omega) (fun j hj => by have := gp1 j hj; omega)).mono ?_
        rintro e w6 ⟨rfl, hb⟩
        have B6 := B5.trans (hb.mono B5.size)
        have O6 := O5.below hb
        have S := S.below hb
        have T := T.below hb
        clear hb
        go_wp2_with fail
        refine (join_s _ _ _ qs _ T (by omega) (fun j hj => by have := gp2 j hj; omega)).mono ?_
        rintro e w7 ⟨rfl, hb⟩
        have B7 := B6.trans (hb.mono B6.size)
        have O7 := O6.below hb
        have S := S.below hb
        have T := T.below hb
        clear hb
        go_wp2_with fail
        refine (same_k _ _ _ _ _ _ ps qs false _ S T hd).mono ?_
        rintro e w8 ⟨rfl, hb⟩
        have B8 := B7.trans (hb.mono B7.size)
        have O8 := O7.below hb
        have S := S.below hb
        have T := T.below hb
        clear hb
        go_wp2_with fail
        refine (live_s _ O8).mono ?_
        rintro e w9 ⟨rfl, hb⟩
        have B9 := B8.trans (hb.mono B8.size)
        have O9 := O8.below hb
        clear hb
        go_wp2_with fail
        go_ret
        exact ⟨rfl, B9⟩

theorem joins_types : ∀ t ∈ [27, 27], Tryd.prog.readableRec t = true ∧ t < Tryd.prog.types.size := by
  have h : ([27, 27].all fun t => Tryd.prog.readableRec t && decide (t < Tryd.prog.types.size)) = true := by kernel_rfl
  intro t ht
  have := List.all_eq_true.1 h t ht
  simpa using this

set_option maxRecDepth 100000 in
theorem joins_contract (H : Type) (enc : TypeId × Value → H) (W : World) (base : Nat) (args : Array Value) (ds gs : List (DataW H)) (before : List MemPlace)
    (hval : ∀ (j : Nat) t v, Tryd.f12.params[j]? = some t → args[j]? = some v → Value.okWide Tryd.prog W .any base t v)
    (hW : DataW.Whole enc Tryd.prog Tryd.f12.params.toList Rows.codecJoinsSpec.vars false W args.toList ds gs before) (hL : laidMetH Tryd.prog Rows.codecJoinsRow.laid W) (hsh : W.ShapedOpen Tryd.prog) :
    Calls Tryd.prog 12 args W fun e W' => ∃ v, e = .returned v ∧ Rows.codecJoinsSpec.post enc Tryd.prog Tryd.f12 false true false false W args v W' := by
  have hW' := hW
  obtain ⟨p, q, hA0, hV, rfl, hfz, hnd⟩ := hW
  have hA : DataW.TrodAll enc Tryd.prog W 0 (fun _ => true) true Tryd.f12.params.toList args.toList ds p := hA0
  obtain ⟨rfl, rfl⟩ := trodVars_none hV
  simp only [List.append_nil] at hW'
  have hlt : ∀ x ∈ p, x.block < W.heap.size := fun x hx => by simpa using hW'.lt x hx
  have fin : ∀ W', Below W.heap.size W W' → DataW.TrodAll enc Tryd.prog W' 0 (fun b => decide (b < W.heap.size)) true [27, 27] args.toList ds p := fun W' hb => by
    rw [Tryd.params12] at hA
    exact trodAll_below hb _ _ _ _ joins_types hA hlt
  clear hA0
  rw [Tryd.params12] at hA hval
  obtain ⟨v0, vs0, d0, ds0, p0, q0, hargs, rfl, hp0, h0, r0⟩ := trodAll_cons hA
  obtain ⟨v1, vs1, d1, ds1, p1, q1, rfl, rfl, hp1, h1, r1⟩ := trodAll_cons r0
  obtain ⟨rfl, rfl, rfl⟩ := trodAll_nil r1
  obtain rfl : args = #[v0, v1] := by cases args; simp_all
  obtain ⟨l, ln, lc, ll, rfl, hs0⟩ := open_strs (hval 0 27 v0 rfl rfl) h0
  obtain ⟨m, mn, mc, ml, rfl, hs1⟩ := open_strs (hval 1 27 v1 rfl rfl) h1
  refine (joins_s l ln lc ll m mn mc ml W hs0 hs1 (cok hL hsh)).mono fun e W' ⟨he, hb⟩ => ?_
  subst he
  exact ⟨_, rfl, _, _, _, [], p, [], hW', trodAll_mk1 (shut_bool Tryd.underlying4 _), fin W' hb, rfl, hb.frame _, fun h => by cases h⟩

set_option maxRecDepth 100000 in
theorem joins_lifted (os : Os) (started : os.Started) (H : Type) (enc : TypeId × Value → H) (F : Stop.Interp) :
    ReturnsInHanded {} Tryd.checked os 12 .any ((OpenSpec.ofChange Rows.codecJoinsSpec).preRow enc Tryd.prog Tryd.f12 Rows.codecJoinsRow.domain false Rows.codecJoinsRow.laid) (((OpenSpec.ofChange Rows.codecJoinsSpec).at F).post enc Tryd.prog Tryd.f12 false true false false) := by
  refine returnsInHanded_of_row (C := Tryd.checked) (s := OpenSpec.ofChange Rows.codecJoinsSpec) own started (by kernel_rfl) Tryd.func12
    (witness_row (enc := enc) (C := Tryd.checked) false (World.laidAll Tryd.prog os Rows.codecJoinsRow.laid) #[.slice none 0 0, .slice none 0 0] (World.laidAll_os _ _ _)
      (World.shaped_of_ZipB (by kernel_rfl) (by kernel_rfl)) (by kernel_rfl)
      (OpenSpec.preRow_of_cond 8 (x := ([.nil, .nil], [], [])) (by kernel_rfl) (by kernel_rfl) (fun k hk => by cases hk) (by kernel_rfl)
        (by rw [MakeChecks.laidMetH_plain _ _ _ (by kernel_rfl)]; exact laidMet_laidAll _ (by kernel_rfl) (by kernel_rfl)))) ?_
  intro W base args ds gs before hval hW _ _ _ hL hsh _
  exact joins_contract H enc W base args ds gs before hval hW hL hsh

set_option maxRecDepth 100000 in
theorem joins_said : Rows.CodecJoinsSaid :=
  OpenClaim.holds_of_cond 12 Tryd.f12 rfl rfl rfl rfl rfl rfl rfl ⟨rfl, rfl, rfl, rfl, rfl⟩ rfl rfl rfl rfl rfl (by kernel_rfl) Tryd.func12 (by kernel_rfl)
    (of_decide_eq_true (by kernel_rfl)) (by unfold Func.isWrapper; first | (rw [if_pos (by decide +kernel)]; kernel_rfl) | (rw [if_neg (by decide +kernel)]; exact ⟨rfl, rfl⟩))
    (fun os started H enc _ F => by rw [OpenClaim.pre_eq_preRow]; exact joins_lifted os started H enc F)

set_option maxRecDepth 100000 in
theorem joins_plain (f : FuncId) (fn : Func) (hf : Tryd.pinned.checked.prog.funcNamed "identity/identitylaw02.CodecJoins" = some f) (hfn : Tryd.pinned.checked.prog.funcs[f]? = some fn) :
    true = Tryd.pinned.checked.prog.looks [] ∧ ∀ (j : Nat) t, fn.params[j]? = some t → Tryd.pinned.checked.prog.wantsStandIn t = false := by
  obtain rfl : f = 12 := Option.some.inj ((show Tryd.prog.funcNamed "identity/identitylaw02.CodecJoins" = some 12 by kernel_rfl).symm.trans hf) |>.symm
  obtain rfl : fn = Tryd.f12 := (Option.some.inj (Tryd.func12.symm.trans hfn)).symm
  refine ⟨by kernel_rfl, fun j t ht => ?_⟩
  rw [Tryd.params12] at ht
  have hm : t ∈ [27, 27] := by simpa using Array.mem_of_getElem? ht
  have hall : ([27, 27].all fun u => !Tryd.prog.wantsStandIn u) = true := by kernel_rfl
  exact (show Tryd.prog.wantsStandIn t = false by simpa using List.all_eq_true.1 hall t hm)

/-- THE CARD -/
theorem joins_card : Rows.CodecJoinsCardSaid :=
  Claim7.holds_tied_plain_at .later [] _ _ _ _ joins_said (fun _ h => by cases h) (by kernel_rfl) (fun _ h => by cases h) codecJoins_row_tie rfl ⟨rfl, rfl⟩ (by kernel_rfl) rfl joins_plain (by kernel_rfl)
end Go.Proofs.YtelddbgnhfhkiaaDoor
