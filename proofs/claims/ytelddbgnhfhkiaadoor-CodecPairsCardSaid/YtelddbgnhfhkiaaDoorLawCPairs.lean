/-
  Proved: identitylaw02.CodecPairs returns true for every slice of pairs (the tied card). No condition beyond the row's own.
-/
import Derived.Test.YtelddbgnhfhkiaaDoorLawFrameB
import Derived.Test.YtelddbgnhfhkiaaDoorCodecRPairs
import Derived.Test.YtelddbgnhfhkiaaDoorCodecPQ
import Derived.Test.YtelddbgnhfhkiaaDoorOpenPairs
set_option linter.unusedVariables false
set_option linter.unusedSimpArgs false
set_option linter.unnecessarySimpa false
namespace Go.Proofs.YtelddbgnhfhkiaaDoor
open Go.ChangeShapes Go.WideShapes Go.ChangeAt Go.RowKit Go.PlainAid
open Go.ChangeMaps (open_string shut_string)

theorem samePairs_k (ao bo : Option Addr) (n m cap dap : Nat) (ps qs : List Pr) (r : Bool) (w : World) (h : PairsAt w ao n cap ps) (k : PairsAt w bo m dap qs) (hr : decide (ps = qs) = r) :
    Calls Tryd.prog 47 #[.slice ao n cap, .slice bo m dap] w fun e w' => e = .returned (.bool r) ∧ Below w.heap.size w w' := by
  subst hr; exact samePairs_s ao bo n m cap dap ps qs w h k

set_option maxRecDepth 100000 in
set_option maxHeartbeats 4000000 in
theorem pairsl_s (ao : Option Addr) (n cap : Nat) (ps : List Pr) (w : World) (hs : PairsAt w ao n cap ps) (ho : COk w) :
    Calls Tryd.prog 14 #[.slice ao n cap] w fun e w' => e = .returned (.bool true) ∧ Below w.heap.size w w' := by
  have B0 := Below.refl w.heap.size w
  have O0 := ho
  have S := hs
  obtain ⟨h1, h2, h3, h4⟩ := hs
  subst h1
  unfold maxLen at h3
  have H4 := Lib.hid h4; clear h4
  by_cases h10 : 10 < ps.length
  · go_enter Tryd.func14, Tryd.ntmps14
    go_wp2_with fail
    refine (live_s _ O0).mono ?_
    rintro e w1 ⟨rfl, hb⟩
    have B1 := B0.trans (hb.mono B0.size)
    have O1 := O0.below hb
    clear hb
    go_wp2_with fail
    go_ret
    exact ⟨rfl, B1⟩
  · go_enter Tryd.func14, Tryd.ntmps14
    go_wp2_with fail
    go_loop [12] (fun i => ∃ k : Nat, k ≤ ps.length ∧ i = .int .i64 k ∧ Hid (∀ j, j < k → (prAt ps j).1.size ≤ 100 ∧ (prAt ps j).2.size ≤ 100)) (fun i => ps.length - (intOf i).toNat)
    case atStart => exact ⟨0, Nat.zero_le _, rfl, Lib.hid fun j hj => absurd hj (Nat.not_lt_zero _)⟩
    case round =>
      obtain ⟨k, hk, rfl, HA⟩ := hrel
      by_cases hlt : k < ps.length
      · obtain ⟨b, off, rfl, hsp⟩ := H4.out (by omega)
        obtain ⟨c1, c2⟩ := hsp.2 k hlt
        clear hsp
        obtain ⟨⟨p, q⟩, hpe⟩ : ∃ p, p = prAt ps k := ⟨_, rfl⟩
        rw [← hpe] at c1 c2
        simp only [] at c1 c2
        have HPE := Lib.hid hpe; clear hpe
        by_cases hp : 100 < p.size
        · skip
          go_wp2_with fail
          refine (live_s _ O0).mono ?_
          rintro e w1 ⟨rfl, hb⟩
          have B1 := B0.trans (hb.mono B0.size)
          have O1 := O0.below hb
          clear hb
          go_wp2_with fail
          go_ret
          exact ⟨rfl, B1⟩
        · by_cases hq : 100 < q.size
          · skip
            go_wp2_with fail
            refine (live_s _ O0).mono ?_
            rintro e w1 ⟨rfl, hb⟩
            have B1 := B0.trans (hb.mono B0.size)
            have O1 := O0.below hb
            clear hb
            go_wp2_with fail
            go_ret
            exact ⟨rfl, B1⟩
          · go_wp2
            go_round
            case rel =>
              refine ⟨k + 1, by omega, by go_num, Lib.hid fun j hj => ?_⟩
              by_cases e : j = k
              · rw [e, ← HPE.out]; exact ⟨Nat.le_of_not_lt hp, Nat.le_of_not_lt hq⟩
              · exact HA.out j (by omega)
            case measure => simp [intOf]; omega
      · have HS := Lib.hid (show ∀ j, j < ps.length → (prAt ps j).1.size ≤ 100 ∧ (prAt ps j).2.size ≤ 100 from fun j hj => HA.out j (by omega))
        have hjz : (pairsS ps).size ≤ 1000000 := by have := pairsS_le ps 100 10 HS.out (by omega); omega
        go_wp2_with fail
        refine (pairs_s _ _ _ ps _ S (by omega) (fun j hj => by have := HS.out j (by omega); omega)).mono ?_
        rintro e w1 ⟨rfl, hb⟩
        have B1 := B0.trans (hb.mono B0.size)
        have O1 := O0.below hb
        have S := S.below hb
        clear hb
        go_wp2_with fail
        refine (readPairs_at (pairsS ps) ps _ 0 _ hjz O1.1 ⟨(rps_pairs ps).1, (rps_pairs ps).2, S.1⟩).mono ?_
        rintro e w2 ⟨⟨ak, ck, rfl, K⟩, hb⟩
        have B2 := B1.trans (hb.mono B1.size)
        have O2 := O1.below hb
        have S := S.below hb
        clear hb
        go_wp2_with fail
        refine (pairs_s _ _ _ ps _ S (by omega) (fun j hj => by have := HS.out j (by omega); omega)).mono ?_
        rintro e w3 ⟨rfl, hb⟩
        have B3 := B2.trans (hb.mono B2.size)
        have O3 := O2.below hb
        have S := S.below hb
        have K := K.below hb
        clear hb
        go_wp2_with fail
        refine (rpairs_s _ _ _ ps _ S (by omega) (fun j hj => by have := HS.out j (by omega); omega)).mono ?_
        rintro e w4 ⟨rfl, hb⟩
        have B4 := B3.trans (hb.mono B3.size)
        have O4 := O3.below hb
        have S := S.below hb
        have K := K.below hb
        clear hb
        go_wp2_with fail
        refine (samePairs_k _ _ _ _ _ _ ps ps true _ K S (decide_eq_true rfl)).mono ?_
        rintro e w5 ⟨rfl, hb⟩
        have B5 := B4.trans (hb.mono B4.size)
        have O5 := O4.below hb
        have S := S.below hb
        clear hb
        go_wp2_with fail
        refine (live_s _ O5).mono ?_
        rintro e w6 ⟨rfl, hb⟩
        have B6 := B5.trans (hb.mono B5.size)
        have O6 := O5.below hb
        clear hb
        go_wp2_with fail
        go_ret
        exact ⟨rfl, B6⟩

theorem pairsl_types : ∀ t ∈ [40], Tryd.prog.readableRec t = true ∧ t < Tryd.prog.types.size := by
  have h : ([40].all fun t => Tryd.prog.readableRec t && decide (t < Tryd.prog.types.size)) = true := by kernel_rfl
  intro t ht
  have := List.all_eq_true.1 h t ht
  simpa using this

set_option maxRecDepth 100000 in
theorem pairsl_contract (H : Type) (enc : TypeId × Value → H) (W : World) (base : Nat) (args : Array Value) (ds gs : List (DataW H)) (before : List MemPlace)
    (hval : ∀ (j : Nat) t v, Tryd.f14.params[j]? = some t → args[j]? = some v → Value.okWide Tryd.prog W .any base t v)
    (hW : DataW.Whole enc Tryd.prog Tryd.f14.params.toList Rows.codecPairsSpec.vars false W args.toList ds gs before) (hL : laidMetH Tryd.prog Rows.codecPairsRow.laid W) (hsh : W.ShapedOpen Tryd.prog) :
    Calls Tryd.prog 14 args W fun e W' => ∃ v, e = .returned v ∧ Rows.codecPairsSpec.post enc Tryd.prog Tryd.f14 false true false false W args v W' := by
  have hW' := hW
  obtain ⟨p, q, hA0, hV, rfl, hfz, hnd⟩ := hW
  have hA : DataW.TrodAll enc Tryd.prog W 0 (fun _ => true) true Tryd.f14.params.toList args.toList ds p := hA0
  obtain ⟨rfl, rfl⟩ := trodVars_none hV
  simp only [List.append_nil] at hW'
  have hlt : ∀ x ∈ p, x.block < W.heap.size := fun x hx => by simpa using hW'.lt x hx
  have fin : ∀ W', Below W.heap.size W W' → DataW.TrodAll enc Tryd.prog W' 0 (fun b => decide (b < W.heap.size)) true [40] args.toList ds p := fun W' hb => by
    rw [Tryd.params14] at hA
    exact trodAll_below hb _ _ _ _ pairsl_types hA hlt
  clear hA0
  rw [Tryd.params14] at hA hval
  obtain ⟨v0, vs0, d0, ds0, p0, q0, hargs, rfl, hp0, h0, r0⟩ := trodAll_cons hA
  obtain ⟨rfl, rfl, rfl⟩ := trodAll_nil r0
  obtain rfl : args = #[v0] := by cases args; simp_all
  obtain ⟨l, ln, lc, ll, rfl, hs0⟩ := open_pairs (hval 0 40 v0 rfl rfl) h0
  refine (pairsl_s l ln lc ll W hs0 (cok hL hsh)).mono fun e W' ⟨he, hb⟩ => ?_
  subst he
  exact ⟨_, rfl, _, _, _, [], p, [], hW', trodAll_mk1 (shut_bool Tryd.underlying4 _), fin W' hb, rfl, hb.frame _, fun h => by cases h⟩

set_option maxRecDepth 100000 in
theorem pairsl_lifted (os : Os) (started : os.Started) (H : Type) (enc : TypeId × Value → H) (F : Stop.Interp) :
    ReturnsInHanded {} Tryd.checked os 14 .any ((OpenSpec.ofChange Rows.codecPairsSpec).preRow enc Tryd.prog Tryd.f14 Rows.codecPairsRow.domain false Rows.codecPairsRow.laid) (((OpenSpec.ofChange Rows.codecPairsSpec).at F).post enc Tryd.prog Tryd.f14 false true false false) := by
  refine returnsInHanded_of_row (C := Tryd.checked) (s := OpenSpec.ofChange Rows.codecPairsSpec) own started (by kernel_rfl) Tryd.func14
    (witness_row (enc := enc) (C := Tryd.checked) false (World.laidAll Tryd.prog os Rows.codecPairsRow.laid) #[.slice none 0 0] (World.laidAll_os _ _ _)
      (World.shaped_of_ZipB (by kernel_rfl) (by kernel_rfl)) (by kernel_rfl)
      (OpenSpec.preRow_of_cond 8 (x := ([.nil], [], [])) (by kernel_rfl) (by kernel_rfl) (fun k hk => by cases hk) (by kernel_rfl)
        (by rw [MakeChecks.laidMetH_plain _ _ _ (by kernel_rfl)]; exact laidMet_laidAll _ (by kernel_rfl) (by kernel_rfl)))) ?_
  intro W base args ds gs before hval hW _ _ _ hL hsh _
  exact pairsl_contract H enc W base args ds gs before hval hW hL hsh

set_option maxRecDepth 100000 in
theorem pairsl_said : Rows.CodecPairsSaid :=
  OpenClaim.holds_of_cond 14 Tryd.f14 rfl rfl rfl rfl rfl rfl rfl ⟨rfl, rfl, rfl, rfl, rfl⟩ rfl rfl rfl rfl rfl (by kernel_rfl) Tryd.func14 (by kernel_rfl)
    (of_decide_eq_true (by kernel_rfl)) (by unfold Func.isWrapper; first | (rw [if_pos (by decide +kernel)]; kernel_rfl) | (rw [if_neg (by decide +kernel)]; exact ⟨rfl, rfl⟩))
    (fun os started H enc _ F => by rw [OpenClaim.pre_eq_preRow]; exact pairsl_lifted os started H enc F)

set_option maxRecDepth 100000 in
theorem pairsl_plain (f : FuncId) (fn : Func) (hf : Tryd.pinned.checked.prog.funcNamed "identity/identitylaw02.CodecPairs" = some f) (hfn : Tryd.pinned.checked.prog.funcs[f]? = some fn) :
    true = Tryd.pinned.checked.prog.looks [] ∧ ∀ (j : Nat) t, fn.params[j]? = some t → Tryd.pinned.checked.prog.wantsStandIn t = false := by
  obtain rfl : f = 14 := Option.some.inj ((show Tryd.prog.funcNamed "identity/identitylaw02.CodecPairs" = some 14 by kernel_rfl).symm.trans hf) |>.symm
  obtain rfl : fn = Tryd.f14 := (Option.some.inj (Tryd.func14.symm.trans hfn)).symm
  refine ⟨by kernel_rfl, fun j t ht => ?_⟩
  rw [Tryd.params14] at ht
  have hm : t ∈ [40] := by simpa using Array.mem_of_getElem? ht
  have hall : ([40].all fun u => !Tryd.prog.wantsStandIn u) = true := by kernel_rfl
  exact (show Tryd.prog.wantsStandIn t = false by simpa using List.all_eq_true.1 hall t hm)

/-- THE CARD -/
theorem pairsl_card : Rows.CodecPairsCardSaid :=
  Claim7.holds_tied_plain_at .later [] _ _ _ _ pairsl_said (fun _ h => by cases h) (by kernel_rfl) (fun _ h => by cases h) codecPairs_row_tie rfl ⟨rfl, rfl⟩ (by kernel_rfl) rfl pairsl_plain (by kernel_rfl)
end Go.Proofs.YtelddbgnhfhkiaaDoor
