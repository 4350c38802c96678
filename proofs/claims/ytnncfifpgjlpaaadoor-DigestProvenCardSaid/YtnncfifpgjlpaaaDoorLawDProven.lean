/-
  Proved: identitylaw03.DigestProven returns true for every slice of strings (the tied card). No condition beyond the row's own.
-/
import Derived.Test.YtnncfifpgjlpaaaDoorDigFine
set_option linter.unusedVariables false
set_option linter.unusedSimpArgs false
set_option linter.unnecessarySimpa false
namespace Go.Proofs.YtnncfifpgjlpaaaDoor
open Go.ChangeShapes Go.WideShapes Go.ChangeAt Go.RowKit Go.PlainAid
open Go.ChangeMaps (open_string shut_string)

set_option maxRecDepth 100000 in
set_option maxHeartbeats 4000000 in
theorem proven_s (ao : Option Addr) (n cap : Nat) (ps : List ByteArray) (w : World) (hs : StrsAt w ao n cap ps) (ho : PowOk w) :
    Calls Tryd.prog 9 #[.slice ao n cap] w fun e w' => e = .returned (.bool true) ∧ Below w.heap.size w w' := by
  have B0 := Below.refl w.heap.size w
  have O0 := ho
  have S := hs
  obtain rfl := hs.1
  have hcn := hs.2.1
  have hcm := hs.2.2.1
  unfold maxLen at hcm
  clear hs
  cases g1 : shortB ps with
  | false =>
    go_enter Tryd.func9, Tryd.ntmps9
    go_wp2_with fail
    refine (short_k _ _ _ ps false _ S g1).mono ?_
    rintro e w' ⟨rfl, rfl⟩
    go_wp2_with fail
    refine (awake_s _ O0).mono ?_
    rintro e w1 ⟨rfl, hb⟩
    have B1 := B0.trans (hb.mono B0.size)
    have O1 := O0.below hb
    clear hb
    go_wp2_with fail
    go_ret
    exact ⟨rfl, B1⟩
  | true =>
    obtain ⟨gn, gp⟩ := short_true g1
    have GP := Lib.hid gp
    obtain ⟨x, HX⟩ : ∃ x, Hid (rootS ps = x) := ⟨_, Lib.hid rfl⟩
    go_enter Tryd.func9, Tryd.ntmps9
    go_wp2_with fail
    refine (short_k _ _ _ ps true _ S g1).mono ?_
    rintro e w' ⟨rfl, rfl⟩
    go_wp2_with fail
    refine (root_k _ _ _ ps x _ S (by omega) (fun j hj => by have := gp j (by omega); omega) HX.out).mono ?_
    rintro e w1 ⟨rfl, hb⟩
    have HS := Lib.hid S
    have HW1 := Lib.hid (show Below w.heap.size w w1 ∧ PowOk w1 ∧ StrsAt w1 ao ps.length cap ps from ⟨B0.trans hb, O0.below hb, S.below hb⟩)
    clear hb S B0 O0 ho gp
    go_wp2_with fail
    go_loopw [4] (fun i wr => ∃ k : Nat, k ≤ ps.length ∧ i = .int .i64 k ∧ Hid (Below w.heap.size w wr ∧ PowOk wr ∧ StrsAt wr ao ps.length cap ps)) (fun i _ => ps.length - (intOf i).toNat)
    case atStart => exact ⟨0, Nat.zero_le _, rfl, HW1⟩
    case round =>
      obtain ⟨k, hk, rfl, HW⟩ := hrel
      obtain ⟨B1, O1, S1⟩ := HW.out
      by_cases hlt : k < ps.length
      · obtain ⟨b, off, rfl, hbw, hcells⟩ := S1.at (by omega)
        have HC := Lib.hid hcells; clear hcells
        have hsz := GP.out k hlt
        have HPV := Lib.hid (path_proves ps k hlt)
        rw [HX.out] at HPV
        obtain ⟨Q, HQ⟩ : ∃ Q, Hid (pathL (ps.map leafS) k = Q) := ⟨_, Lib.hid rfl⟩
        have HF := Lib.hid (path_fine ps k)
        rw [HQ.out] at HF HPV
        obtain ⟨p, hpe⟩ : ∃ p, p = partAt ps k := ⟨_, rfl⟩
        have HC1 := Lib.hid (show ∀ w', Below wr.heap.size wr w' → w'.cell? ⟨b, off + k, none⟩ = some (.string p) from fun w' hb => by rw [hpe]; exact HC.out _ hb k hlt)
        rw [← hpe] at hsz HPV
        clear hpe
        go_wp2_with fail
        refine (path_k _ _ _ ps Q k _ _ S1 (by omega) (fun j hj => by have := GP.out j hj; omega) hlt HQ.out rfl).mono ?_
        rintro e w2 ⟨⟨bo, dap, rfl, P2⟩, hb⟩
        have B2 := B1.trans (hb.mono B1.size)
        have O2 := O1.below hb
        have S2 := S1.below hb
        have hc := HC1.out _ hb
        clear hb HC1
        go_wp2_with fail
        refine (proves_k x p k ps.length _ _ _ Q true _ hlt (by omega) (by omega) P2 (by have := HF.out.1; omega) HF.out.2 HPV.out).mono ?_
        rintro e w3 ⟨rfl, hb⟩
        have HW3 := Lib.hid (show Below w.heap.size w w3 ∧ PowOk w3 ∧ StrsAt w3 (some ⟨b, off, none⟩) ps.length cap ps from ⟨B2.trans (hb.mono B2.size), O2.below hb, S2.below hb⟩)
        clear hb
        go_wp2_with fail
        go_roundw
        case rel => exact ⟨k + 1, by omega, by go_num, HW3⟩
        case measure => simp [intOf]; omega
      · go_wp2_with fail
        refine (awake_s _ O1).mono ?_
        rintro e w2 ⟨rfl, hb⟩
        have B2 := B1.trans (hb.mono B1.size)
        clear hb
        go_wp2_with fail
        go_ret
        exact ⟨rfl, B2⟩

theorem proven_types : ∀ t ∈ [35], Tryd.prog.readableRec t = true ∧ t < Tryd.prog.types.size := by
  have h : ([35].all fun t => Tryd.prog.readableRec t && decide (t < Tryd.prog.types.size)) = true := by kernel_rfl
  intro t ht
  have := List.all_eq_true.1 h t ht
  simpa using this

set_option maxRecDepth 100000 in
theorem proven_contract (H : Type) (enc : TypeId × Value → H) (W : World) (base : Nat) (args : Array Value) (ds gs : List (DataW H)) (before : List MemPlace)
    (hval : ∀ (j : Nat) t v, Tryd.f9.params[j]? = some t → args[j]? = some v → Value.okWide Tryd.prog W .any base t v)
    (hW : DataW.Whole enc Tryd.prog Tryd.f9.params.toList Rows.digestProvenSpec.vars false W args.toList ds gs before) (hL : laidMetH Tryd.prog Rows.digestProvenRow.laid W) (hsh : W.ShapedOpen Tryd.prog) :
    Calls Tryd.prog 9 args W fun e W' => ∃ v, e = .returned v ∧ Rows.digestProvenSpec.post enc Tryd.prog Tryd.f9 false true false false W args v W' := by
  have hW' := hW
  obtain ⟨p, q, hA0, hV, rfl, hfz, hnd⟩ := hW
  have hA : DataW.TrodAll enc Tryd.prog W 0 (fun _ => true) true Tryd.f9.params.toList args.toList ds p := hA0
  obtain ⟨rfl, rfl⟩ := trodVars_none hV
  simp only [List.append_nil] at hW'
  have hlt : ∀ x ∈ p, x.block < W.heap.size := fun x hx => by simpa using hW'.lt x hx
  have fin : ∀ W', Below W.heap.size W W' → DataW.TrodAll enc Tryd.prog W' 0 (fun b => decide (b < W.heap.size)) true [35] args.toList ds p := fun W' hb => by
    rw [Tryd.params9] at hA
    exact trodAll_below hb _ _ _ _ proven_types hA hlt
  clear hA0
  rw [Tryd.params9] at hA hval
  obtain ⟨v0, vs0, d0, ds0, p0, q0, hargs, rfl, hp0, h0, r0⟩ := trodAll_cons hA
  obtain ⟨rfl, rfl, rfl⟩ := trodAll_nil r0
  obtain rfl : args = #[v0] := by cases args; simp_all
  obtain ⟨l, ln, lc, ll, rfl, hs0⟩ := open_strs (hval 0 35 v0 rfl rfl) h0
  refine (proven_s l ln lc ll W hs0 (pok hL)).mono fun e W' ⟨he, hb⟩ => ?_
  subst he
  exact ⟨_, rfl, _, _, _, [], p, [], hW', trodAll_mk1 (shut_bool Tryd.underlying4 _), fin W' hb, rfl, hb.frame _, fun h => by cases h⟩

set_option maxRecDepth 100000 in
theorem proven_lifted (os : Os) (started : os.Started) (H : Type) (enc : TypeId × Value → H) (F : Stop.Interp) :
    ReturnsInHanded {} Tryd.checked os 9 .any ((OpenSpec.ofChange Rows.digestProvenSpec).preRow enc Tryd.prog Tryd.f9 Rows.digestProvenRow.domain false Rows.digestProvenRow.laid) (((OpenSpec.ofChange Rows.digestProvenSpec).at F).post enc Tryd.prog Tryd.f9 false true false false) := by
  refine returnsInHanded_of_row (C := Tryd.checked) (s := OpenSpec.ofChange Rows.digestProvenSpec) own started (by kernel_rfl) Tryd.func9
    (witness_row (enc := enc) (C := Tryd.checked) false (World.laidAll Tryd.prog os Rows.digestProvenRow.laid) #[.slice none 0 0] (World.laidAll_os _ _ _)
      (World.shaped_of_ZipB (by kernel_rfl) (by kernel_rfl)) (by kernel_rfl)
      (OpenSpec.preRow_of_cond 8 (x := ([.nil], [], [])) (by kernel_rfl) (by kernel_rfl) (fun k hk => by cases hk) (by kernel_rfl)
        (by rw [MakeChecks.laidMetH_plain _ _ _ (by kernel_rfl)]; exact laidMet_laidAll _ (by kernel_rfl) (by kernel_rfl)))) ?_
  intro W base args ds gs before hval hW _ _ _ hL hsh _
  exact proven_contract H enc W base args ds gs before hval hW hL hsh

set_option maxRecDepth 100000 in
theorem proven_said : Rows.DigestProvenSaid :=
  OpenClaim.holds_of_cond 9 Tryd.f9 rfl rfl rfl rfl rfl rfl rfl ⟨rfl, rfl, rfl, rfl, rfl⟩ rfl rfl rfl rfl rfl (by kernel_rfl) Tryd.func9 (by kernel_rfl)
    (of_decide_eq_true (by kernel_rfl)) (by unfold Func.isWrapper; first | (rw [if_pos (by decide +kernel)]; kernel_rfl) | (rw [if_neg (by decide +kernel)]; exact ⟨rfl, rfl⟩))
    (fun os started H enc _ F => by rw [OpenClaim.pre_eq_preRow]; exact proven_lifted os started H enc F)

set_option maxRecDepth 100000 in
theorem proven_plain (f : FuncId) (fn : Func) (hf : Tryd.pinned.checked.prog.funcNamed "identity/identitylaw03.DigestProven" = some f) (hfn : Tryd.pinned.checked.prog.funcs[f]? = some fn) :
    false = Tryd.pinned.checked.prog.looks [] ∧ ∀ (j : Nat) t, fn.params[j]? = some t → Tryd.pinned.checked.prog.wantsStandIn t = false := by
  obtain rfl : f = 9 := Option.some.inj ((show Tryd.prog.funcNamed "identity/identitylaw03.DigestProven" = some 9 by kernel_rfl).symm.trans hf) |>.symm
  obtain rfl : fn = Tryd.f9 := (Option.some.inj (Tryd.func9.symm.trans hfn)).symm
  refine ⟨by kernel_rfl, fun j t ht => ?_⟩
  rw [Tryd.params9] at ht
  have hm : t ∈ [35] := by simpa using Array.mem_of_getElem? ht
  have hall : ([35].all fun u => !Tryd.prog.wantsStandIn u) = true := by kernel_rfl
  exact (show Tryd.prog.wantsStandIn t = false by simpa using List.all_eq_true.1 hall t hm)

/-- THE CARD -/
theorem proven_card : Rows.DigestProvenCardSaid :=
  Claim7.holds_tied_plain_at .later [] _ _ _ _ proven_said (fun _ h => by cases h) (by kernel_rfl) (fun _ h => by cases h) digestProven_row_tie rfl ⟨rfl, rfl⟩ (by kernel_rfl) rfl proven_plain (by kernel_rfl)
end Go.Proofs.YtnncfifpgjlpaaaDoor
