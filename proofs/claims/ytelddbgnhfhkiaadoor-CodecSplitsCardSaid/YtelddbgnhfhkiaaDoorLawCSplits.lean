/-
  Proved: identitylaw02.CodecSplits returns true for every string (the tied card). No condition beyond the row's own.
-/
import Derived.Test.YtelddbgnhfhkiaaDoorLawFrameB
import Derived.Test.YtelddbgnhfhkiaaDoorCodecSame
import Derived.Test.YtelddbgnhfhkiaaDoorCodecRSplit
import Derived.Test.YtelddbgnhfhkiaaDoorCodecQ
set_option linter.unusedVariables false
set_option linter.unusedSimpArgs false
set_option linter.unnecessarySimpa false
namespace Go.Proofs.YtelddbgnhfhkiaaDoor
open Go.ChangeShapes Go.WideShapes Go.ChangeAt Go.RowKit Go.PlainAid
open Go.ChangeMaps (open_string shut_string)

theorem great_k (ao : Option Addr) (n cap : Nat) (ps : List ByteArray) (r : Bool) (w : World) (h : StrsAt w ao n cap ps) (hr : greatB ps 12 100 = r) :
    Calls Tryd.prog 38 #[.slice ao n cap, .int .i64 12, .int .i64 100] w fun e w' => e = .returned (.bool r) ∧ w = w' := by
  subst hr; exact great_s ao n cap ps 12 100 w h (by decide)
theorem same_k (ao bo : Option Addr) (n m cap dap : Nat) (ps qs : List ByteArray) (r : Bool) (w : World) (h : StrsAt w ao n cap ps) (k : StrsAt w bo m dap qs) (hr : decide (ps = qs) = r) :
    Calls Tryd.prog 42 #[.slice ao n cap, .slice bo m dap] w fun e w' => e = .returned (.bool r) ∧ Below w.heap.size w w' := by
  subst hr; exact same_s ao bo n m cap dap ps qs w h k
theorem joinS_le (ps : List ByteArray) (m n : Nat) (hp : ∀ j, j < ps.length → (partAt ps j).size ≤ m) (hn : ps.length ≤ n) : (joinS ps).size ≤ n * (3 * m + 1) + 3 := by
  have h1 := bar_len 124 (3 * m) ((dataL ps).map escL) (fun p hq => by
    obtain ⟨q, hq1, rfl⟩ := List.mem_map.1 hq
    unfold dataL at hq1
    obtain ⟨x, hx, rfl⟩ := List.mem_map.1 hq1
    have := great_all hp x hx
    have h3 := escL_length x.data.toList
    rw [← Lib.size_eq] at h3
    omega)
  have h2 : ((dataL ps).map escL).length ≤ n := by simp [dataL]; exact hn
  have h3 := Nat.mul_le_mul_right (3 * m + 1) h2
  show (joinL (dataL ps)).length ≤ _
  unfold joinL
  split
  · show 1 ≤ _; omega
  · split
    · show 3 ≤ _; omega
    · omega
theorem str_eq {a b : ByteArray} (h : a = b) : (a.toList == b.toList) = true := by rw [h]; exact beq_self_eq_true _
theorem str_ne {a b : ByteArray} (h : a ≠ b) : (a.toList == b.toList) = false := by
  rw [Lib.toList_data, Lib.toList_data]
  exact beq_false_of_ne fun e => h (by rw [← Lib.mk_data a, ← Lib.mk_data b, e])

theorem rsplit_at (s : ByteArray) (l : List ByteArray) (n : Nat) (e0 : Int) (w : World) (hs : s.size ≤ 1000000) (h : splS s = l ∧ splE s = e0 ∧ l.length = n) :
    Calls Tryd.prog 43 #[.string s] w fun e w' => (∃ ao cap, e = .returned (.tuple #[.slice ao n cap, .int .i64 e0]) ∧ StrsAt w' ao n cap l) ∧ Below w.heap.size w w' := by
  obtain ⟨rfl, rfl, rfl⟩ := h
  refine (rsplit_s s w hs).mono fun e w' ⟨v, h1, h2, h3⟩ => ?_
  obtain ⟨ao, cap, rfl, h4⟩ := strs_own h2 rfl
  exact ⟨⟨ao, cap, h1, h4⟩, h3⟩
theorem readAll_le : ∀ (ps l : List (List UInt8)), readAll ps = some l → l.length = ps.length ∧ ∀ x ∈ l, ∃ p ∈ ps, x.length ≤ p.length
  | [], l, h => by unfold readAll at h; cases h; exact ⟨rfl, by simp⟩
  | p :: r, l, h => by
    unfold readAll at h
    split at h
    · rename_i x hx
      obtain ⟨y, hy, rfl⟩ := Option.map_eq_some_iff.1 h
      obtain ⟨h1, h2⟩ := readAll_le r y hy
      refine ⟨by simp [h1], fun z hz => ?_⟩
      rcases List.mem_cons.1 hz with e | e
      · exact ⟨p, by simp, by rw [e]; exact unesc_le _ _ hx⟩
      · obtain ⟨q, hq, hl⟩ := h2 z e
        exact ⟨q, by simp [hq], hl⟩
    · cases h
theorem spl_bounds (s l) (h : splitL s = some l) : l.length ≤ s.length + 1 ∧ ∀ x ∈ l, x.length ≤ s.length := by
  unfold splitL at h
  split at h
  · cases h; simp
  · split at h
    · rename_i e
      cases h; rw [e]; simp
    · obtain ⟨h1, h2⟩ := readAll_le _ _ h
      have := pieces_count 124 s
      refine ⟨by omega, fun x hx => ?_⟩
      obtain ⟨p, hp, hl⟩ := h2 x hx
      exact Nat.le_trans hl (pieces_mem 124 s p hp)

theorem spl_none {s : ByteArray} (h : splitL s.data.toList = none) : splS s = [] ∧ splE s = 4 ∧ ([] : List ByteArray).length = 0 := by
  unfold splS splE; rw [h]; exact ⟨rfl, rfl, rfl⟩

set_option maxRecDepth 100000 in
set_option maxHeartbeats 4000000 in
theorem splits_s (s : ByteArray) (w : World) (ho : COk w) :
    Calls Tryd.prog 13 #[.string s] w fun e w' => e = .returned (.bool true) ∧ Below w.heap.size w w' := by
  have B0 := Below.refl w.heap.size w
  have O0 := ho
  by_cases h1 : 600 < s.size
  · skip
    go_enter Tryd.func13, Tryd.ntmps13
    go_wp2_with fail
    refine (live_s _ O0).mono ?_
    rintro e w1 ⟨rfl, hb⟩
    have B1 := B0.trans (hb.mono B0.size)
    have O1 := O0.below hb
    clear hb
    go_wp2_with fail
    go_ret
    exact ⟨rfl, B1⟩
  · cases hu : splitL s.data.toList with
    | none =>
      go_enter Tryd.func13, Tryd.ntmps13
      go_wp2_with fail
      refine (split_at s [] 0 4 _ (by omega) O0.1 (spl_none hu)).mono ?_
      rintro e w1 ⟨⟨ak, ck, rfl, K⟩, hb⟩
      have B1 := B0.trans (hb.mono B0.size)
      have O1 := O0.below hb
      clear hb
      go_wp2_with fail
      refine (rsplit_at s [] 0 4 _ (by omega) (spl_none hu)).mono ?_
      rintro e w2 ⟨⟨am, cm, rfl, M⟩, hb⟩
      have B2 := B1.trans (hb.mono B1.size)
      have O2 := O1.below hb
      have K := K.below hb
      clear hb
      go_wp2_with fail
      refine (same_k _ _ _ _ _ _ [] [] true _ K M (decide_eq_true rfl)).mono ?_
      rintro e w3 ⟨rfl, hb⟩
      have B3 := B2.trans (hb.mono B2.size)
      have O3 := O2.below hb
      clear hb
      go_wp2_with fail
      refine (live_s _ O3).mono ?_
      rintro e w4 ⟨rfl, hb⟩
      have B4 := B3.trans (hb.mono B3.size)
      have O4 := O3.below hb
      clear hb
      go_wp2_with fail
      go_ret
      exact ⟨rfl, B4⟩
    | some L =>
      obtain ⟨b1, b2⟩ := spl_bounds _ _ hu
      rw [← Lib.size_eq] at b1 b2
      obtain ⟨j1, j2, hjs⟩ := joinS_spl s L hu
      obtain ⟨qs, hqs⟩ : ∃ qs, qs = L.map ofL := ⟨_, rfl⟩
      obtain ⟨n, hn⟩ : ∃ n, n = qs.length := ⟨_, rfl⟩
      have hall : qs.all (fun p => decide (p.size ≤ 1000000)) = true := by
        rw [hqs, List.all_eq_true]
        intro p hp
        obtain ⟨x, hx, rfl⟩ := List.mem_map.1 hp
        have := b2 x hx
        exact decide_eq_true (show x.length ≤ _ by omega)
      have hql : qs.length ≤ 1000 := by rw [hqs, List.length_map]; omega
      rw [← hqs] at j1 hjs
      have hsp : splS s = qs ∧ splE s = 0 ∧ qs.length = n := ⟨j1, j2, hn.symm⟩
      have hnl : n ≤ 1000 := by omega
      have HSP := Lib.hid hsp
      have HALL := Lib.hid hall
      have HJS := Lib.hid hjs
      clear hqs hu b1 b2 j1 j2 hn hsp hall hjs
      go_enter Tryd.func13, Tryd.ntmps13
      go_wp2_with fail
      refine (split_at s qs n 0 _ (by omega) O0.1 HSP.out).mono ?_
      rintro e w1 ⟨⟨ak, ck, rfl, K⟩, hb⟩
      have B1 := B0.trans (hb.mono B0.size)
      have O1 := O0.below hb
      clear hb
      go_wp2_with fail
      refine (rsplit_at s qs n 0 _ (by omega) HSP.out).mono ?_
      rintro e w2 ⟨⟨am, cm, rfl, M⟩, hb⟩
      have B2 := B1.trans (hb.mono B1.size)
      have O2 := O1.below hb
      have K := K.below hb
      clear hb
      go_wp2_with fail
      refine (same_k _ _ _ _ _ _ qs qs true _ K M (decide_eq_true rfl)).mono ?_
      rintro e w3 ⟨rfl, hb⟩
      have B3 := B2.trans (hb.mono B2.size)
      have O3 := O2.below hb
      have K := K.below hb
      clear hb
      go_wp2_with fail
      refine (join_k _ _ _ qs s _ K (by omega) HALL.out HJS.out).mono ?_
      rintro e w4 ⟨rfl, hb⟩
      have B4 := B3.trans (hb.mono B3.size)
      have O4 := O3.below hb
      clear hb
      go_wp2_with fail
      refine (live_s _ O4).mono ?_
      rintro e w5 ⟨rfl, hb⟩
      have B5 := B4.trans (hb.mono B4.size)
      have O5 := O4.below hb
      clear hb
      go_wp2_with fail
      go_ret
      exact ⟨rfl, B5⟩

theorem splits_types : ∀ t ∈ [9], Tryd.prog.readableRec t = true ∧ t < Tryd.prog.types.size := by
  have h : ([9].all fun t => Tryd.prog.readableRec t && decide (t < Tryd.prog.types.size)) = true := by kernel_rfl
  intro t ht
  have := List.all_eq_true.1 h t ht
  simpa using this

set_option maxRecDepth 100000 in
theorem splits_contract (H : Type) (enc : TypeId × Value → H) (W : World) (base : Nat) (args : Array Value) (ds gs : List (DataW H)) (before : List MemPlace)
    (hval : ∀ (j : Nat) t v, Tryd.f13.params[j]? = some t → args[j]? = some v → Value.okWide Tryd.prog W .any base t v)
    (hW : DataW.Whole enc Tryd.prog Tryd.f13.params.toList Rows.codecSplitsSpec.vars false W args.toList ds gs before) (hL : laidMetH Tryd.prog Rows.codecSplitsRow.laid W) (hsh : W.ShapedOpen Tryd.prog) :
    Calls Tryd.prog 13 args W fun e W' => ∃ v, e = .returned v ∧ Rows.codecSplitsSpec.post enc Tryd.prog Tryd.f13 false true false false W args v W' := by
  have hW' := hW
  obtain ⟨p, q, hA0, hV, rfl, hfz, hnd⟩ := hW
  have hA : DataW.TrodAll enc Tryd.prog W 0 (fun _ => true) true Tryd.f13.params.toList args.toList ds p := hA0
  obtain ⟨rfl, rfl⟩ := trodVars_none hV
  simp only [List.append_nil] at hW'
  have hlt : ∀ x ∈ p, x.block < W.heap.size := fun x hx => by simpa using hW'.lt x hx
  have fin : ∀ W', Below W.heap.size W W' → DataW.TrodAll enc Tryd.prog W' 0 (fun b => decide (b < W.heap.size)) true [9] args.toList ds p := fun W' hb => by
    rw [Tryd.params13] at hA
    exact trodAll_below hb _ _ _ _ splits_types hA hlt
  clear hA0
  rw [Tryd.params13] at hA hval
  obtain ⟨v0, vs0, d0, ds0, p0, q0, hargs, rfl, hp0, h0, r0⟩ := trodAll_cons hA
  obtain ⟨rfl, rfl, rfl⟩ := trodAll_nil r0
  obtain rfl : args = #[v0] := by cases args; simp_all
  obtain ⟨s, rfl, rfl, rfl, hs0⟩ := open_string Tryd.underlying9 (hval 0 9 v0 rfl rfl) h0
  refine (splits_s s W (cok hL hsh)).mono fun e W' ⟨he, hb⟩ => ?_
  subst he
  exact ⟨_, rfl, _, _, _, [], p, [], hW', trodAll_mk1 (shut_bool Tryd.underlying4 _), fin W' hb, rfl, hb.frame _, fun h => by cases h⟩

set_option maxRecDepth 100000 in
theorem splits_lifted (os : Os) (started : os.Started) (H : Type) (enc : TypeId × Value → H) (F : Stop.Interp) :
    ReturnsInHanded {} Tryd.checked os 13 .any ((OpenSpec.ofChange Rows.codecSplitsSpec).preRow enc Tryd.prog Tryd.f13 Rows.codecSplitsRow.domain false Rows.codecSplitsRow.laid) (((OpenSpec.ofChange Rows.codecSplitsSpec).at F).post enc Tryd.prog Tryd.f13 false true false false) := by
  refine returnsInHanded_of_row (C := Tryd.checked) (s := OpenSpec.ofChange Rows.codecSplitsSpec) own started (by kernel_rfl) Tryd.func13
    (witness_row (enc := enc) (C := Tryd.checked) false (World.laidAll Tryd.prog os Rows.codecSplitsRow.laid) #[.string ⟨#[]⟩] (World.laidAll_os _ _ _)
      (World.shaped_of_ZipB (by kernel_rfl) (by kernel_rfl)) (by kernel_rfl)
      (OpenSpec.preRow_of_cond 8 (x := ([.lit (.string [])], [], [])) (by kernel_rfl) (by kernel_rfl) (fun k hk => by cases hk) (by kernel_rfl)
        (by rw [MakeChecks.laidMetH_plain _ _ _ (by kernel_rfl)]; exact laidMet_laidAll _ (by kernel_rfl) (by kernel_rfl)))) ?_
  intro W base args ds gs before hval hW _ _ _ hL hsh _
  exact splits_contract H enc W base args ds gs before hval hW hL hsh

set_option maxRecDepth 100000 in
theorem splits_said : Rows.CodecSplitsSaid :=
  OpenClaim.holds_of_cond 13 Tryd.f13 rfl rfl rfl rfl rfl rfl rfl ⟨rfl, rfl, rfl, rfl, rfl⟩ rfl rfl rfl rfl rfl (by kernel_rfl) Tryd.func13 (by kernel_rfl)
    (of_decide_eq_true (by kernel_rfl)) (by unfold Func.isWrapper; first | (rw [if_pos (by decide +kernel)]; kernel_rfl) | (rw [if_neg (by decide +kernel)]; exact ⟨rfl, rfl⟩))
    (fun os started H enc _ F => by rw [OpenClaim.pre_eq_preRow]; exact splits_lifted os started H enc F)

set_option maxRecDepth 100000 in
theorem splits_plain (f : FuncId) (fn : Func) (hf : Tryd.pinned.checked.prog.funcNamed "identity/identitylaw02.CodecSplits" = some f) (hfn : Tryd.pinned.checked.prog.funcs[f]? = some fn) :
    true = Tryd.pinned.checked.prog.looks [] ∧ ∀ (j : Nat) t, fn.params[j]? = some t → Tryd.pinned.checked.prog.wantsStandIn t = false := by
  obtain rfl : f = 13 := Option.some.inj ((show Tryd.prog.funcNamed "identity/identitylaw02.CodecSplits" = some 13 by kernel_rfl).symm.trans hf) |>.symm
  obtain rfl : fn = Tryd.f13 := (Option.some.inj (Tryd.func13.symm.trans hfn)).symm
  refine ⟨by kernel_rfl, fun j t ht => ?_⟩
  rw [Tryd.params13] at ht
  have hm : t ∈ [9] := by simpa using Array.mem_of_getElem? ht
  have hall : ([9].all fun u => !Tryd.prog.wantsStandIn u) = true := by kernel_rfl
  exact (show Tryd.prog.wantsStandIn t = false by simpa using List.all_eq_true.1 hall t hm)

/-- THE CARD -/
theorem splits_card : Rows.CodecSplitsCardSaid :=
  Claim7.holds_tied_plain_at .later [] _ _ _ _ splits_said (fun _ h => by cases h) (by kernel_rfl) (fun _ h => by cases h) codecSplits_row_tie rfl ⟨rfl, rfl⟩ (by kernel_rfl) rfl splits_plain (by kernel_rfl)
end Go.Proofs.YtelddbgnhfhkiaaDoor
