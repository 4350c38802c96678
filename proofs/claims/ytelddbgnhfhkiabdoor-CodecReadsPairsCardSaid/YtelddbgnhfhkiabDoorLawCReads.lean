/-
  Proved: identitylaw02.CodecReadsPairs returns true for every string (the tied card). No condition beyond the row's own.
-/
import Derived.Test.YtelddbgnhfhkiabDoorLawFrameB
import Derived.Test.YtelddbgnhfhkiabDoorCodecSameP
import Derived.Test.YtelddbgnhfhkiabDoorCodecRRP
set_option linter.unusedVariables false
set_option linter.unusedSimpArgs false
set_option linter.unnecessarySimpa false
namespace Go.Proofs.YtelddbgnhfhkiabDoor
open Go.ChangeShapes Go.WideShapes Go.ChangeAt Go.RowKit Go.PlainAid
open Go.ChangeMaps (open_string shut_string)

theorem samePairs_k (ao bo : Option Addr) (n m cap dap : Nat) (ps qs : List Pr) (r : Bool) (w : World) (h : PairsAt w ao n cap ps) (k : PairsAt w bo m dap qs) (hr : decide (ps = qs) = r) :
    Calls Tryd.prog 10 #[.slice ao n cap, .slice bo m dap] w fun e w' => e = .returned (.bool r) ∧ Below w.heap.size w w' := by
  subst hr; exact samePairs_s ao bo n m cap dap ps qs w h k

theorem rreadPairs_at (s : ByteArray) (l : List Pr) (n : Nat) (e0 : Int) (w : World) (hs : s.size ≤ 1000000) (h : rpsS s = l ∧ rpsE s = e0 ∧ l.length = n) :
    Calls Tryd.prog 9 #[.string s] w fun e w' => (∃ ao cap, e = .returned (.tuple #[.slice ao n cap, .int .i64 e0]) ∧ PairsAt w' ao n cap l) ∧ Below w.heap.size w w' := by
  obtain ⟨rfl, rfl, rfl⟩ := h
  refine (rreadPairs_s s w hs).mono fun e w' ⟨v, h1, h2, h3⟩ => ?_
  obtain ⟨ao, cap, rfl, h4⟩ := pairs_own h2 rfl
  exact ⟨⟨ao, cap, h1, h4⟩, h3⟩
theorem escL_ge (l : List UInt8) : l.length ≤ (escL l).length := by
  induction l with
  | nil => simp [escL]
  | cons c l ih =>
    have e : escL (c :: l) = escC c ++ escL l := by simp [escL]
    rw [e, List.length_append, List.length_cons]
    have : 1 ≤ (escC c).length := by unfold escC; split <;> simp
    omega
theorem rps_bounds (l : List UInt8) (ps : List Pr) (h : rpsL l = some ps) : ps.length ≤ l.length + 1 ∧ ∀ p ∈ ps, p.1.size ≤ l.length ∧ p.2.size ≤ l.length := by
  unfold rpsL at h
  split at h
  · cases h; simp
  · have hi := readPr_inv _ _ h
    have hc := pieces_count 124 l
    refine ⟨by rw [← hi, List.length_map] at hc; exact hc, fun p hp => ?_⟩
    have hm := pieces_mem 124 l (prL p) (by rw [← hi]; exact List.mem_map_of_mem hp)
    rw [prL_form, List.length_append, List.length_cons] at hm
    have h1 := escL_ge p.1.data.toList
    have h2 := escL_ge p.2.data.toList
    rw [← Lib.size_eq] at h1 h2
    omega
theorem rps_none {s : ByteArray} (h : rpsL s.data.toList = none) : rpsS s = [] ∧ rpsE s = 4 ∧ ([] : List Pr).length = 0 := by
  unfold rpsS rpsE; rw [h]; exact ⟨rfl, rfl, rfl⟩

set_option maxRecDepth 100000 in
set_option maxHeartbeats 4000000 in
theorem reads_s (s : ByteArray) (w : World) (ho : COk w) :
    Calls Tryd.prog 3 #[.string s] w fun e w' => e = .returned (.bool true) ∧ Below w.heap.size w w' := by
  have B0 := Below.refl w.heap.size w
  have O0 := ho
  by_cases h1 : 600 < s.size
  · skip
    go_enter Tryd.func3, Tryd.ntmps3
    go_wp2_with fail
    refine (live_s _ O0).mono ?_
    rintro e w1 ⟨rfl, hb⟩
    have B1 := B0.trans (hb.mono B0.size)
    have O1 := O0.below hb
    clear hb
    go_wp2_with fail
    go_ret
    exact ⟨rfl, B1⟩
  · cases hu : rpsL s.data.toList with
    | none =>
      go_enter Tryd.func3, Tryd.ntmps3
      go_wp2_with fail
      refine (readPairs_at s [] 0 4 _ (by omega) O0.1 (rps_none hu)).mono ?_
      rintro e w1 ⟨⟨ak, ck, rfl, K⟩, hb⟩
      have B1 := B0.trans (hb.mono B0.size)
      have O1 := O0.below hb
      clear hb
      go_wp2_with fail
      refine (rreadPairs_at s [] 0 4 _ (by omega) (rps_none hu)).mono ?_
      rintro e w2 ⟨⟨am, cm, rfl, M⟩, hb⟩
      have B2 := B1.trans (hb.mono B1.size)
      have O2 := O1.below hb
      have K := K.below hb
      clear hb
      go_wp2_with fail
      refine (samePairs_k _ _ _ _ _ _ [] [] true _ K M (decide_eq_true rfl)).mono ?_
      rintro e w3 ⟨rfl, hb⟩
      have B3 := B2.trans (hb.mono B2.size)
      have O3 := O2.below hb
      clear hb
      go_wp2_with fail
      refine (live_s _ O3).mono ?_
      rintro e w4 ⟨rfl, hb⟩
      have B4 := B3.trans (hb.mono B3.size)
      have O4 := O3.below hb
      clear hb
      go_wp2_with fail
      go_ret
      exact ⟨rfl, B4⟩
    | some qs =>
      obtain ⟨b1, b2⟩ := rps_bounds _ _ hu
      rw [← Lib.size_eq] at b1 b2
      obtain ⟨j1, j2, hjs⟩ := pairs_rps s qs hu
      obtain ⟨n, hn⟩ : ∃ n, n = qs.length := ⟨_, rfl⟩
      have hall : qs.all (fun p => decide (p.1.size ≤ 1000000) && decide (p.2.size ≤ 1000000)) = true := by
        rw [List.all_eq_true]
        intro p hp
        have := b2 p hp
        rw [Bool.and_eq_true]
        exact ⟨decide_eq_true (by omega), decide_eq_true (by omega)⟩
      have hql : qs.length ≤ 1000 := by omega
      have hnl : n ≤ 1000 := by omega
      have HSP := Lib.hid (show rpsS s = qs ∧ rpsE s = 0 ∧ qs.length = n from ⟨j1, j2, hn.symm⟩)
      have HALL := Lib.hid hall
      have HJS := Lib.hid hjs
      clear hu b1 b2 j1 j2 hn hall hjs
      go_enter Tryd.func3, Tryd.ntmps3
      go_wp2_with fail
      refine (readPairs_at s qs n 0 _ (by omega) O0.1 HSP.out).mono ?_
      rintro e w1 ⟨⟨ak, ck, rfl, K⟩, hb⟩
      have B1 := B0.trans (hb.mono B0.size)
      have O1 := O0.below hb
      clear hb
      go_wp2_with fail
      refine (rreadPairs_at s qs n 0 _ (by omega) HSP.out).mono ?_
      rintro e w2 ⟨⟨am, cm, rfl, M⟩, hb⟩
      have B2 := B1.trans (hb.mono B1.size)
      have O2 := O1.below hb
      have K := K.below hb
      clear hb
      go_wp2_with fail
      refine (samePairs_k _ _ _ _ _ _ qs qs true _ K M (decide_eq_true rfl)).mono ?_
      rintro e w3 ⟨rfl, hb⟩
      have B3 := B2.trans (hb.mono B2.size)
      have O3 := O2.below hb
      have K := K.below hb
      clear hb
      go_wp2_with fail
      refine (pairs_k _ _ _ qs s _ K (by omega) HALL.out HJS.out).mono ?_
      rintro e w4 ⟨rfl, hb⟩
      have B4 := B3.trans (hb.mono B3.size)
      have O4 := O3.below hb
      clear hb
      go_wp2_with fail
      refine (live_s _ O4).mono ?_
      rintro e w5 ⟨rfl, hb⟩
      have B5 := B4.trans (hb.mono B4.size)
      have O5 := O4.below hb
      clear hb
      go_wp2_with fail
      go_ret
      exact ⟨rfl, B5⟩

theorem reads_types : ∀ t ∈ [9], Tryd.prog.readableRec t = true ∧ t < Tryd.prog.types.size := by
  have h : ([9].all fun t => Tryd.prog.readableRec t && decide (t < Tryd.prog.types.size)) = true := by kernel_rfl
  intro t ht
  have := List.all_eq_true.1 h t ht
  simpa using this

set_option maxRecDepth 100000 in
theorem reads_contract (H : Type) (enc : TypeId × Value → H) (W : World) (base : Nat) (args : Array Value) (ds gs : List (DataW H)) (before : List MemPlace)
    (hval : ∀ (j : Nat) t v, Tryd.f3.params[j]? = some t → args[j]? = some v → Value.okWide Tryd.prog W .any base t v)
    (hW : DataW.Whole enc Tryd.prog Tryd.f3.params.toList Rows.codecReadsPairsSpec.vars false W args.toList ds gs before) (hL : laidMetH Tryd.prog Rows.codecReadsPairsRow.laid W) (hsh : W.ShapedOpen Tryd.prog) :
    Calls Tryd.prog 3 args W fun e W' => ∃ v, e = .returned v ∧ Rows.codecReadsPairsSpec.post enc Tryd.prog Tryd.f3 false true false false W args v W' := by
  have hW' := hW
  obtain ⟨p, q, hA0, hV, rfl, hfz, hnd⟩ := hW
  have hA : DataW.TrodAll enc Tryd.prog W 0 (fun _ => true) true Tryd.f3.params.toList args.toList ds p := hA0
  obtain ⟨rfl, rfl⟩ := trodVars_none hV
  simp only [List.append_nil] at hW'
  have hlt : ∀ x ∈ p, x.block < W.heap.size := fun x hx => by simpa using hW'.lt x hx
  have fin : ∀ W', Below W.heap.size W W' → DataW.TrodAll enc Tryd.prog W' 0 (fun b => decide (b < W.heap.size)) true [9] args.toList ds p := fun W' hb => by
    rw [Tryd.params3] at hA
    exact trodAll_below hb _ _ _ _ reads_types hA hlt
  clear hA0
  rw [Tryd.params3] at hA hval
  obtain ⟨v0, vs0, d0, ds0, p0, q0, hargs, rfl, hp0, h0, r0⟩ := trodAll_cons hA
  obtain ⟨rfl, rfl, rfl⟩ := trodAll_nil r0
  obtain rfl : args = #[v0] := by cases args; simp_all
  obtain ⟨s, rfl, rfl, rfl, hs0⟩ := open_string Tryd.underlying9 (hval 0 9 v0 rfl rfl) h0
  refine (reads_s s W (cok hL hsh)).mono fun e W' ⟨he, hb⟩ => ?_
  subst he
  exact ⟨_, rfl, _, _, _, [], p, [], hW', trodAll_mk1 (shut_bool Tryd.underlying4 _), fin W' hb, rfl, hb.frame _, fun h => by cases h⟩

set_option maxRecDepth 100000 in
theorem reads_lifted (os : Os) (started : os.Started) (H : Type) (enc : TypeId × Value → H) (F : Stop.Interp) :
    ReturnsInHanded {} Tryd.checked os 3 .any ((OpenSpec.ofChange Rows.codecReadsPairsSpec).preRow enc Tryd.prog Tryd.f3 Rows.codecReadsPairsRow.domain false Rows.codecReadsPairsRow.laid) (((OpenSpec.ofChange Rows.codecReadsPairsSpec).at F).post enc Tryd.prog Tryd.f3 false true false false) := by
  refine returnsInHanded_of_row (C := Tryd.checked) (s := OpenSpec.ofChange Rows.codecReadsPairsSpec) own started (by kernel_rfl) Tryd.func3
    (witness_row (enc := enc) (C := Tryd.checked) false (World.laidAll Tryd.prog os Rows.codecReadsPairsRow.laid) #[.string ⟨#[]⟩] (World.laidAll_os _ _ _)
      (World.shaped_of_ZipB (by kernel_rfl) (by kernel_rfl)) (by kernel_rfl)
      (OpenSpec.preRow_of_cond 8 (x := ([.lit (.string [])], [], [])) (by kernel_rfl) (by kernel_rfl) (fun k hk => by cases hk) (by kernel_rfl)
        (by rw [MakeChecks.laidMetH_plain _ _ _ (by kernel_rfl)]; exact laidMet_laidAll _ (by kernel_rfl) (by kernel_rfl)))) ?_
  intro W base args ds gs before hval hW _ _ _ hL hsh _
  exact reads_contract H enc W base args ds gs before hval hW hL hsh

set_option maxRecDepth 100000 in
theorem reads_said : Rows.CodecReadsPairsSaid :=
  OpenClaim.holds_of_cond 3 Tryd.f3 rfl rfl rfl rfl rfl rfl rfl ⟨rfl, rfl, rfl, rfl, rfl⟩ rfl rfl rfl rfl rfl (by kernel_rfl) Tryd.func3 (by kernel_rfl)
    (of_decide_eq_true (by kernel_rfl)) (by unfold Func.isWrapper; first | (rw [if_pos (by decide +kernel)]; kernel_rfl) | (rw [if_neg (by decide +kernel)]; exact ⟨rfl, rfl⟩))
    (fun os started H enc _ F => by rw [OpenClaim.pre_eq_preRow]; exact reads_lifted os started H enc F)

set_option maxRecDepth 100000 in
theorem reads_plain (f : FuncId) (fn : Func) (hf : Tryd.pinned.checked.prog.funcNamed "identity/identitylaw02.CodecReadsPairs" = some f) (hfn : Tryd.pinned.checked.prog.funcs[f]? = some fn) :
    true = Tryd.pinned.checked.prog.looks [] ∧ ∀ (j : Nat) t, fn.params[j]? = some t → Tryd.pinned.checked.prog.wantsStandIn t = false := by
  obtain rfl : f = 3 := Option.some.inj ((show Tryd.prog.funcNamed "identity/identitylaw02.CodecReadsPairs" = some 3 by kernel_rfl).symm.trans hf) |>.symm
  obtain rfl : fn = Tryd.f3 := (Option.some.inj (Tryd.func3.symm.trans hfn)).symm
  refine ⟨by kernel_rfl, fun j t ht => ?_⟩
  rw [Tryd.params3] at ht
  have hm : t ∈ [9] := by simpa using Array.mem_of_getElem? ht
  have hall : ([9].all fun u => !Tryd.prog.wantsStandIn u) = true := by kernel_rfl
  exact (show Tryd.prog.wantsStandIn t = false by simpa using List.all_eq_true.1 hall t hm)

/-- THE CARD -/
theorem reads_card : Rows.CodecReadsPairsCardSaid :=
  Claim7.holds_tied_plain_at .later [] _ _ _ _ reads_said (fun _ h => by cases h) (by kernel_rfl) (fun _ h => by cases h) codecReadsPairs_row_tie rfl ⟨rfl, rfl⟩ (by kernel_rfl) rfl reads_plain (by kernel_rfl)
end Go.Proofs.YtelddbgnhfhkiabDoor
