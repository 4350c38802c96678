/-
  Proved: identitylaw28.ProofAccepts returns true for all arguments (the tied card). No condition beyond the row's own.
-/
import Derived.Test.YtbogmmdmfbcbnaaDoorPrfLaws
import Derived.Deep.RegionHeld3
set_option linter.unusedVariables false
set_option linter.unusedSimpArgs false
set_option linter.unnecessarySimpa false
namespace Go.Proofs.YtbogmmdmfbcbnaaDoor
open Go.ChangeShapes Go.WideShapes Go.ChangeAt Go.RowKit Go.PlainAid
open Go.ChangeMaps (open_string shut_string)

theorem ck_self {m : Int} {a : ByteArray} (h : chE m a = 0) : ckE m (chS m a) a = 0 := by unfold ckE; rw [if_pos h, if_pos rfl]
theorem ck_same {m : Int} {a r b : ByteArray} (h : chE m a = 0) (hr : chS m a = r) (e : b = r) : ckE m b a = 0 := by unfold ckE; rw [if_pos h, hr, if_pos e]
theorem ck_other {m : Int} {a r b : ByteArray} (h : chE m a = 0) (hr : chS m a = r) (e : b ≠ r) : ckE m b a = 20 := by unfold ckE; rw [if_pos h, hr, if_neg e]
theorem ck_out {m : Int} {b r : ByteArray} (h : ckE m r b = 0) : chE m b = 0 ∧ r = chS m b := by
  unfold ckE at h
  by_cases k : chE m b = 0
  · rw [if_pos k] at h
    by_cases e : r = chS m b
    · exact ⟨k, e⟩
    · rw [if_neg e] at h; cases h
  · rw [if_neg k] at h; exact absurd h k
theorem ch_val {m : Int} {s : ByteArray} (h : chE m s = 0) : (m = 1 ∨ m = 2) ∧ valB s = true := by
  unfold chE at h
  by_cases k : m = 1 ∨ m = 2
  · rw [if_pos k] at h
    cases hv : valB s
    · rw [hv] at h; simp at h
    · exact ⟨k, rfl⟩
  · rw [if_neg k] at h; cases h
theorem ch_empty {m : Int} {s : ByteArray} (h : chE m s ≠ 0) : chS m s = ⟨#[]⟩ := by unfold chS; rw [if_neg h]
theorem b64_read (t : ByteArray) : read64 (b64S t).data.toList = some t.data.toList := by
  show read64 (encR 0 0 t.data.toList) = _
  exact read_enc _
theorem b64_back (t : ByteArray) : r64S (b64S t) = t ∧ r64E (b64S t) = 0 := by
  unfold r64S r64E
  rw [b64_read]
  exact ⟨Lib.mk_data t, rfl⟩
theorem b64_one {t u : ByteArray} (h : b64S t = b64S u) : t = u := by
  rw [← (b64_back t).1, h, (b64_back u).1]
theorem b64_size (t : ByteArray) : (b64S t).size = (encR 0 0 t.data.toList).length := by unfold b64S ofL; rw [Lib.size_mk]
theorem read64_k (s r : ByteArray) (w : World) (hs : s.size ≤ 1000000000) (h1 : r64S s = r) (h2 : r64E s = 0) :
    Calls Tryd.prog 17 #[.string s] w fun e w' => e = .returned (.tuple #[.string r, .int .i64 0]) ∧ Below w.heap.size w w' := by
  have := readBase64_s s w hs (.inr high_idx)
  rw [h1, h2] at this
  exact this
set_option maxRecDepth 100000 in
set_option maxHeartbeats 16000000 in
theorem lpaccepts_s (m : Int) (a : ByteArray) (b : ByteArray) (w : World) (hm : (Lit.int .i64 m).wf = true) (ho : POk w) :
    Calls Tryd.prog 4 #[.int .i64 m, .string a, .string b] w fun e w' => e = .returned (.bool true) ∧ Below w.heap.size w w' := by
  obtain ⟨m0, m1⟩ := int_range hm
  have HB := Lib.hid (box_below w (.cells #[.string a, .string b] 9))
  have HO := Lib.hid (ho.below HB.out)
  clear ho
  obtain ⟨gl, hgl⟩ : ∃ gl, lgB [a, b] = gl := ⟨_, rfl⟩
  have HLg : Hid (Calls Tryd.prog 9 #[.slice (some ⟨w.heap.size, 0, none⟩) 2 2] (w.alloc (.cells #[.string a, .string b] 9)) fun e w' => e = .returned (.bool gl) ∧ w.alloc (.cells #[.string a, .string b] 9) = w') := Lib.hid (long_k w.heap.size 2 [a, b] gl _ (strs_new w [a, b]) rfl (by decide) hgl)
  cases gl with
  | true =>
    clear hgl
    go_enter Tryd.func4, Tryd.ntmps4
    go_wp2_with fail
    refine HLg.out.mono ?_
    rintro e w' ⟨rfl, rfl⟩
    go_wp2_with fail
    refine (live_s _ HO.out).mono ?_
    rintro e wc1 ⟨rfl, hb⟩
    have HB := Lib.hid (HB.out.trans (hb.mono HB.out.size))
    clear hb
    go_wp2_with fail
    go_ret
    exact ⟨rfl, HB.out⟩
  | false =>
    have hsz := lg_out hgl
    have z0 : a.size ≤ 300 := hsz a (by simp)
    have z1 : b.size ≤ 300 := hsz b (by simp)
    clear hgl hsz
    obtain ⟨r, hr⟩ : ∃ r, chS m a = r := ⟨_, rfl⟩
    obtain ⟨x, hx⟩ : ∃ x, chE m a = x := ⟨_, rfl⟩
    have HC := Lib.hid (fun W => challenge_k m a r x W (by omega) m0 m1 hr hx)
    by_cases hx0 : x = 0
    · subst hx0
      have HK1 := Lib.hid (fun W => check_k m r a 0 W (by omega) m0 m1 (ck_same hx hr rfl))
      obtain ⟨y2, hy2⟩ : ∃ y, ckE m r b = y := ⟨_, rfl⟩
      have HK3 := Lib.hid (fun W => check_k m r b y2 W (by omega) m0 m1 hy2)
      have HE : Hid (y2 = 0 → (m = 1 → a = b) ∧ (m ≠ 1 → r64S r = txtS a ∧ r64E r = 0 ∧ txtS a = txtS b)) := Lib.hid fun h => by
        subst h
        obtain ⟨h1, h2⟩ := ck_out hy2
        obtain ⟨hm1, hva⟩ := ch_val hx
        obtain ⟨_, hvb⟩ := ch_val h1
        refine ⟨fun e => ?_, fun e => ?_⟩
        · subst e
          rw [(ch_1 hva).2] at hr
          rw [(ch_1 hvb).2] at h2
          rw [hr, h2]
        · have e2 : m = 2 := hm1.resolve_left e
          subst e2
          rw [(ch_2 hva).2] at hr
          rw [(ch_2 hvb).2] at h2
          rw [← hr] at h2 ⊢
          exact ⟨(b64_back _).1, (b64_back _).2, b64_one h2⟩
      have HRz : Hid (r.size ≤ 1000000000) := Lib.hid (by
        obtain ⟨hm1, hva⟩ := ch_val hx
        rcases hm1 with e | e
        · subst e; rw [(ch_1 hva).2] at hr; rw [← hr]; omega
        · subst e; rw [(ch_2 hva).2] at hr
          rw [← hr, b64_size]
          have h16 := txtS_size a
          rw [Lib.size_eq] at h16
          have : ∀ l : List UInt8, l.length = 16 → (encR 0 0 l).length ≤ 1000 := fun l hl => by
            rw [enc_length, hl]; decide
          have := this _ h16
          omega)
      by_cases hbr : b = r
      · have HK2 := Lib.hid (fun W => check_k m b a 0 W (by omega) m0 m1 (ck_same hx hr hbr))
        have q1 := bne_s b
        subst hbr
        clear hr hx hy2 m0 m1
        go_enter Tryd.func4, Tryd.ntmps4
        go_wp2_with fail
        refine HLg.out.mono ?_
        rintro e w' ⟨rfl, rfl⟩
        go_wp2_with fail
        refine (HC.out _).mono ?_
        rintro e wc3 ⟨rfl, hb⟩
        have HB := Lib.hid (HB.out.trans (hb.mono HB.out.size))
        have HO := Lib.hid (HO.out.below hb)
        clear hb
        go_wp2_with fail
        refine (HK1.out _).mono ?_
        rintro e wc4 ⟨rfl, hb⟩
        have HB := Lib.hid (HB.out.trans (hb.mono HB.out.size))
        have HO := Lib.hid (HO.out.below hb)
        clear hb
        go_wp2_with fail
        refine (HK2.out _).mono ?_
        rintro e wc5 ⟨rfl, hb⟩
        have HB := Lib.hid (HB.out.trans (hb.mono HB.out.size))
        have HO := Lib.hid (HO.out.below hb)
        clear hb
        go_wp2_with fail
        refine (live_s _ HO.out).mono ?_
        rintro e wl ⟨rfl, hb⟩
        have HB := Lib.hid (HB.out.trans (hb.mono HB.out.size))
        have HO := Lib.hid (HO.out.below hb)
        clear hb
        go_wp2_with fail
        refine (HK3.out _).mono ?_
        rintro e wk ⟨rfl, hb⟩
        have HB := Lib.hid (HB.out.trans (hb.mono HB.out.size))
        have HO := Lib.hid (HO.out.below hb)
        clear hb
        by_cases hy0 : y2 = 0
        · obtain ⟨g1, g2⟩ := HE.out hy0
          subst hy0
          by_cases hm1 : m = 1
          · have hab := g1 hm1
            have HBz := Lib.hid HB.out
            subst hm1 hab
            have q2 := beq_s a
            go_wp2_with fail
            go_ret
            exact ⟨rfl, HBz.out⟩
          · obtain ⟨k1, k2, k3⟩ := g2 hm1
            have e1 : (m == 1) = false := beq_eq_false_iff_ne.2 hm1
            obtain ⟨t, ht⟩ : ∃ t, txtS a = t := ⟨_, rfl⟩
            rw [ht] at k1 k3
            have HT := Lib.hid ht
            have HT2 := Lib.hid k3.symm
            have HRd := Lib.hid (fun W => read64_k b t W HRz.out k1 k2)
            have q2 := beq_s t
            clear ht k1 k2 k3 g1 g2 hm1
            go_wp2_with fail
            refine (HRd.out _).mono ?_
            rintro e wc6 ⟨rfl, hb⟩
            have HB := Lib.hid (HB.out.trans (hb.mono HB.out.size))
            have HO := Lib.hid (HO.out.below hb)
            clear hb
            go_wp2_with fail
            refine (text_k a t _ (by omega) HT.out).mono ?_
            rintro e wc7 ⟨rfl, hb⟩
            have HB := Lib.hid (HB.out.trans (hb.mono HB.out.size))
            have HO := Lib.hid (HO.out.below hb)
            clear hb
            go_wp2_with fail
            refine (text_k a t _ (by omega) HT.out).mono ?_
            rintro e wc8 ⟨rfl, hb⟩
            have HB := Lib.hid (HB.out.trans (hb.mono HB.out.size))
            have HO := Lib.hid (HO.out.below hb)
            clear hb
            go_wp2_with fail
            refine (text_k b t _ (by omega) HT2.out).mono ?_
            rintro e wc9 ⟨rfl, hb⟩
            have HB := Lib.hid (HB.out.trans (hb.mono HB.out.size))
            have HO := Lib.hid (HO.out.below hb)
            clear hb
            go_wp2_with fail
            go_ret
            exact ⟨rfl, HB.out⟩
        · obtain ⟨e1, e2⟩ := beq0 hy0
          clear hy0
          go_wp2_with fail
          go_ret
          exact ⟨rfl, HB.out⟩
      · have HK2 := Lib.hid (fun W => check_k m b a 20 W (by omega) m0 m1 (ck_other hx hr hbr))
        clear hr hx hy2 hbr m0 m1
        go_enter Tryd.func4, Tryd.ntmps4
        go_wp2_with fail
        refine HLg.out.mono ?_
        rintro e w' ⟨rfl, rfl⟩
        go_wp2_with fail
        refine (HC.out _).mono ?_
        rintro e wc10 ⟨rfl, hb⟩
        have HB := Lib.hid (HB.out.trans (hb.mono HB.out.size))
        have HO := Lib.hid (HO.out.below hb)
        clear hb
        go_wp2_with fail
        refine (HK1.out _).mono ?_
        rintro e wc11 ⟨rfl, hb⟩
        have HB := Lib.hid (HB.out.trans (hb.mono HB.out.size))
        have HO := Lib.hid (HO.out.below hb)
        clear hb
        go_wp2_with fail
        refine (HK2.out _).mono ?_
        rintro e wc12 ⟨rfl, hb⟩
        have HB := Lib.hid (HB.out.trans (hb.mono HB.out.size))
        have HO := Lib.hid (HO.out.below hb)
        clear hb
        go_wp2_with fail
        refine (live_s _ HO.out).mono ?_
        rintro e wl ⟨rfl, hb⟩
        have HB := Lib.hid (HB.out.trans (hb.mono HB.out.size))
        have HO := Lib.hid (HO.out.below hb)
        clear hb
        go_wp2_with fail
        refine (HK3.out _).mono ?_
        rintro e wk ⟨rfl, hb⟩
        have HB := Lib.hid (HB.out.trans (hb.mono HB.out.size))
        have HO := Lib.hid (HO.out.below hb)
        clear hb
        by_cases hy0 : y2 = 0
        · obtain ⟨g1, g2⟩ := HE.out hy0
          subst hy0
          by_cases hm1 : m = 1
          · have hab := g1 hm1
            have HBz := Lib.hid HB.out
            subst hm1 hab
            have q2 := beq_s a
            go_wp2_with fail
            go_ret
            exact ⟨rfl, HBz.out⟩
          · obtain ⟨k1, k2, k3⟩ := g2 hm1
            have e1 : (m == 1) = false := beq_eq_false_iff_ne.2 hm1
            obtain ⟨t, ht⟩ : ∃ t, txtS a = t := ⟨_, rfl⟩
            rw [ht] at k1 k3
            have HT := Lib.hid ht
            have HT2 := Lib.hid k3.symm
            have HRd := Lib.hid (fun W => read64_k r t W HRz.out k1 k2)
            have q2 := beq_s t
            clear ht k1 k2 k3 g1 g2 hm1
            go_wp2_with fail
            refine (HRd.out _).mono ?_
            rintro e wc13 ⟨rfl, hb⟩
            have HB := Lib.hid (HB.out.trans (hb.mono HB.out.size))
            have HO := Lib.hid (HO.out.below hb)
            clear hb
            go_wp2_with fail
            refine (text_k a t _ (by omega) HT.out).mono ?_
            rintro e wc14 ⟨rfl, hb⟩
            have HB := Lib.hid (HB.out.trans (hb.mono HB.out.size))
            have HO := Lib.hid (HO.out.below hb)
            clear hb
            go_wp2_with fail
            refine (text_k a t _ (by omega) HT.out).mono ?_
            rintro e wc15 ⟨rfl, hb⟩
            have HB := Lib.hid (HB.out.trans (hb.mono HB.out.size))
            have HO := Lib.hid (HO.out.below hb)
            clear hb
            go_wp2_with fail
            refine (text_k b t _ (by omega) HT2.out).mono ?_
            rintro e wc16 ⟨rfl, hb⟩
            have HB := Lib.hid (HB.out.trans (hb.mono HB.out.size))
            have HO := Lib.hid (HO.out.below hb)
            clear hb
            go_wp2_with fail
            go_ret
            exact ⟨rfl, HB.out⟩
        · obtain ⟨e1, e2⟩ := beq0 hy0
          clear hy0
          go_wp2_with fail
          go_ret
          exact ⟨rfl, HB.out⟩
    · have hre := ch_empty (m := m) (s := a) (by rw [hx]; exact hx0)
      rw [hr] at hre
      subst hre
      obtain ⟨e1, e2⟩ := beq0 hx0
      clear hr hx hx0 m0 m1 hm
      go_enter Tryd.func4, Tryd.ntmps4
      go_wp2_with fail
      refine HLg.out.mono ?_
      rintro e w' ⟨rfl, rfl⟩
      go_wp2_with fail
      refine (HC.out _).mono ?_
      rintro e wc17 ⟨rfl, hb⟩
      have HB := Lib.hid (HB.out.trans (hb.mono HB.out.size))
      have HO := Lib.hid (HO.out.below hb)
      clear hb
      go_wp2_with fail
      refine (live_s _ HO.out).mono ?_
      rintro e wc2 ⟨rfl, hb⟩
      have HB := Lib.hid (HB.out.trans (hb.mono HB.out.size))
      clear hb
      go_wp2_with fail
      go_ret
      exact ⟨rfl, HB.out⟩

theorem lpaccepts_types : ∀ t ∈ [22, 9, 9], Tryd.prog.readableRec t = true ∧ t < Tryd.prog.types.size := by
  have h : ([22, 9, 9].all fun t => Tryd.prog.readableRec t && decide (t < Tryd.prog.types.size)) = true := by kernel_rfl
  intro t ht
  have := List.all_eq_true.1 h t ht
  simpa using this

set_option maxRecDepth 100000 in
theorem lpaccepts_contract (H : Type) (enc : TypeId × Value → H) (W : World) (base : Nat) (args : Array Value) (ds gs : List (DataW H)) (before : List MemPlace)
    (hval : ∀ (j : Nat) t v, Tryd.f4.params[j]? = some t → args[j]? = some v → Value.okWide Tryd.prog W .any base t v)
    (hW : DataW.Whole enc Tryd.prog Tryd.f4.params.toList Rows.proofAcceptsSpec.vars false W args.toList ds gs before) (hL : laidMetH Tryd.prog Rows.proofAcceptsRow.laid W) (hsh : W.ShapedOpen Tryd.prog) :
    Calls Tryd.prog 4 args W fun e W' => ∃ v, e = .returned v ∧ Rows.proofAcceptsSpec.post enc Tryd.prog Tryd.f4 false true false false W args v W' := by
  have hW' := hW
  obtain ⟨p, q, hA0, hV, rfl, hfz, hnd⟩ := hW
  have hA : DataW.TrodAll enc Tryd.prog W 0 (fun _ => true) true Tryd.f4.params.toList args.toList ds p := hA0
  obtain ⟨rfl, rfl⟩ := trodVars_none hV
  simp only [List.append_nil] at hW'
  have hlt : ∀ x ∈ p, x.block < W.heap.size := fun x hx => by simpa using hW'.lt x hx
  have fin : ∀ W', Below W.heap.size W W' → DataW.TrodAll enc Tryd.prog W' 0 (fun b => decide (b < W.heap.size)) true [22, 9, 9] args.toList ds p := fun W' hb => by
    rw [Tryd.params4] at hA
    exact trodAll_below hb _ _ _ _ lpaccepts_types hA hlt
  clear hA0
  rw [Tryd.params4] at hA hval
  obtain ⟨v0, vs0, d0, ds0, p0, q0, hargs, rfl, hp0, h0, r0⟩ := trodAll_cons hA
  obtain ⟨v1, vs1, d1, ds1, p1, q1, rfl, rfl, hp1, h1, r1⟩ := trodAll_cons r0
  obtain ⟨v2, vs2, d2, ds2, p2, q2, rfl, rfl, hp2, h2, r2⟩ := trodAll_cons r1
  obtain ⟨rfl, rfl, rfl⟩ := trodAll_nil r2
  obtain rfl : args = #[v0, v1, v2] := by cases args; simp_all
  obtain ⟨m, rfl, rfl, rfl, hs0⟩ := open_int Tryd.underlying22 (hval 0 22 v0 rfl rfl) h0
  obtain ⟨a, rfl, rfl, rfl, hs1⟩ := open_string Tryd.underlying9 (hval 1 9 v1 rfl rfl) h1
  obtain ⟨b, rfl, rfl, rfl, hs2⟩ := open_string Tryd.underlying9 (hval 2 9 v2 rfl rfl) h2
  refine (lpaccepts_s m a b W hs0 ⟨max_ok hsh, pow_of hL⟩).mono fun e W' ⟨he, hb⟩ => ?_
  subst he
  exact ⟨_, rfl, _, _, _, [], p, [], hW', trodAll_mk1 (shut_bool Tryd.underlying4 _), fin W' hb, rfl, hb.frame _, fun h => by cases h⟩

set_option maxRecDepth 100000 in
theorem lpaccepts_lifted (os : Os) (started : os.Started) (H : Type) (enc : TypeId × Value → H) (F : Stop.Interp) :
    ReturnsInHanded {} Tryd.checked os 4 .any ((OpenSpec.ofChange Rows.proofAcceptsSpec).preRow enc Tryd.prog Tryd.f4 Rows.proofAcceptsRow.domain false Rows.proofAcceptsRow.laid) (((OpenSpec.ofChange Rows.proofAcceptsSpec).at F).post enc Tryd.prog Tryd.f4 false true false false) := by
  refine returnsInHanded_of_row (C := Tryd.checked) (s := OpenSpec.ofChange Rows.proofAcceptsSpec) own started (by kernel_rfl) Tryd.func4
    (witness_row (enc := enc) (C := Tryd.checked) false (World.laidAll Tryd.prog os Rows.proofAcceptsRow.laid) #[.int .i64 0, .string ⟨#[]⟩, .string ⟨#[]⟩] (World.laidAll_os _ _ _)
      (World.shaped_of_ZipB (by kernel_rfl) (by kernel_rfl)) (by kernel_rfl)
      (OpenSpec.preRow_of_cond 8 (x := ([.lit (.int .i64 0), .lit (.string []), .lit (.string [])], [], [])) (by kernel_rfl) (by kernel_rfl) (fun k hk => by cases hk) (by kernel_rfl)
        (by rw [MakeChecks.laidMetH_plain _ _ _ (by kernel_rfl)]; exact laidMet_laidAll _ (by kernel_rfl) (by kernel_rfl)))) ?_
  intro W base args ds gs before hval hW _ _ _ hL hsh _
  exact lpaccepts_contract H enc W base args ds gs before hval hW hL hsh

set_option maxRecDepth 100000 in
theorem lpaccepts_said : Rows.ProofAcceptsSaid :=
  OpenClaim.holds_of_cond 4 Tryd.f4 rfl rfl rfl rfl rfl rfl rfl ⟨rfl, rfl, rfl, rfl, rfl⟩ rfl rfl rfl rfl rfl (by kernel_rfl) Tryd.func4 (by kernel_rfl)
    (of_decide_eq_true (by kernel_rfl)) (by unfold Func.isWrapper; first | (rw [if_pos (by decide +kernel)]; kernel_rfl) | (rw [if_neg (by decide +kernel)]; exact ⟨rfl, rfl⟩))
    (fun os started H enc _ F => by rw [OpenClaim.pre_eq_preRow]; exact lpaccepts_lifted os started H enc F)

set_option maxRecDepth 100000 in
theorem lpaccepts_plain (f : FuncId) (fn : Func) (hf : Tryd.pinned.checked.prog.funcNamed "identity/identitylaw28.ProofAccepts" = some f) (hfn : Tryd.pinned.checked.prog.funcs[f]? = some fn) :
    false = Tryd.pinned.checked.prog.looks [] ∧ ∀ (j : Nat) t, fn.params[j]? = some t → Tryd.pinned.checked.prog.wantsStandIn t = false := by
  obtain rfl : f = 4 := Option.some.inj ((show Tryd.prog.funcNamed "identity/identitylaw28.ProofAccepts" = some 4 by kernel_rfl).symm.trans hf) |>.symm
  obtain rfl : fn = Tryd.f4 := (Option.some.inj (Tryd.func4.symm.trans hfn)).symm
  refine ⟨by kernel_rfl, fun j t ht => ?_⟩
  rw [Tryd.params4] at ht
  have hm : t ∈ [22, 9, 9] := by simpa using Array.mem_of_getElem? ht
  have hall : ([22, 9, 9].all fun u => !Tryd.prog.wantsStandIn u) = true := by kernel_rfl
  exact (show Tryd.prog.wantsStandIn t = false by simpa using List.all_eq_true.1 hall t hm)

/-- THE CARD -/
theorem lpaccepts_card : Rows.ProofAcceptsCardSaid :=
  Claim7.holds_tied_plain_at .later [] _ _ _ _ lpaccepts_said (fun _ h => by cases h) (by kernel_rfl) (fun _ h => by cases h) proofAccepts_row_tie rfl ⟨rfl, rfl⟩ (by kernel_rfl) rfl lpaccepts_plain (by kernel_rfl)
end Go.Proofs.YtbogmmdmfbcbnaaDoor
