/-
  Proved: identitylaw22.SecretOnly returns true for all arguments. No condition beyond the row's own.
-/
import Derived.Test.YtnmcncnphfgpiaaSecLaws
import Derived.Deep.RegionHeld3
set_option linter.unusedVariables false
set_option linter.unusedSimpArgs false
set_option linter.unnecessarySimpa false
namespace Go.Proofs.Ytnmcncnphfgpiaa
open Go.ChangeShapes Go.WideShapes Go.ChangeAt Go.RowKit Go.PlainAid
open Go.ChangeMaps (open_string shut_string)

theorem mkE_cases (p a : ByteArray) (r : Int) : (mkE p a r ≠ 0) ∨ (usB a r = true ∧ pwB p = true) := by
  unfold mkE
  cases h1 : usB a r
  · exact .inl (by rw [if_neg (by decide)]; decide)
  · cases h2 : pwB p
    · exact .inl (by rw [if_pos rfl, if_neg (by decide)]; decide)
    · exact .inr ⟨rfl, rfl⟩
/-- what is digested in step k -/
def stA (salt p : ByteArray) : Nat → ByteArray
  | 0 => salt ++ ⟨#[124]⟩ ++ p
  | k + 1 => txtS (stA salt p k) ++ ⟨#[124]⟩ ++ salt
theorem stA_txt (salt p : ByteArray) : ∀ k, txtS (stA salt p k) = itS salt (txtS (salt ++ ⟨#[124]⟩ ++ p)) k
  | 0 => rfl
  | k + 1 => by
    show txtS (txtS (stA salt p k) ++ ⟨#[124]⟩ ++ salt) = txtS (itS salt _ k ++ ⟨#[124]⟩ ++ salt)
    rw [stA_txt salt p k]
theorem stA_size (salt p : ByteArray) (h : p.size ≤ 400) : ∀ k, (stA salt p k).size ≤ salt.size + 401
  | 0 => by unfold stA; rw [bar_size]; omega
  | k + 1 => by unfold stA; rw [bar_size, txtS_size]; omega
theorem app_left {a b c : ByteArray} (h : a ++ b = a ++ c) : b = c := by
  have := congrArg (fun x : ByteArray => x.data.toList) h
  simp only [ByteArray.data_append, Array.toList_append] at this
  have := List.append_cancel_left this
  cases b; cases c
  simpa using this
theorem app_right {a b c : ByteArray} (h : b ++ a = c ++ a) : b = c := by
  have := congrArg (fun x : ByteArray => x.data.toList) h
  simp only [ByteArray.data_append, Array.toList_append] at this
  have := List.append_cancel_right this
  cases b; cases c
  simpa using this
/-- a and c are what is digested in step k -/
structure StA (salt p q : ByteArray) (k : Nat) (a c : ByteArray) : Prop where
  one : stA salt p k = a
  two : stA salt q k = c
  ne : a ≠ c
theorem stA_zero {salt p q : ByteArray} (h : p ≠ q) : stA salt p 0 ≠ stA salt q 0 := fun e => h (app_left e)
theorem stA_next {salt p q : ByteArray} {k : Nat} (h : txtS (stA salt p k) ≠ txtS (stA salt q k)) : stA salt p (k + 1) ≠ stA salt q (k + 1) := fun e => h (app_right (app_right e))
theorem stA_last {salt p q : ByteArray} {r : Int} (h1 : 1 ≤ r) (h2 : r ≤ 64) (h : iterS salt p r = iterS salt q r) : txtS (stA salt p r.toNat) = txtS (stA salt q r.toNat) := by
  rw [stA_txt, stA_txt]
  unfold iterS at h
  rw [show min (max r 0) 64 = r by omega] at h
  exact h
theorem str_eqT {a b : ByteArray} (h : a = b) : (a.toList == b.toList) = true := by rw [str_eq]; exact decide_eq_true h
theorem str_eqF {a b : ByteArray} (h : a ≠ b) : (a.toList == b.toList) = false := by rw [str_eq]; exact decide_eq_false h
theorem str_neT {a b : ByteArray} (h : a ≠ b) : (a.toList != b.toList) = true := by rw [bne, str_eqF h]; rfl
theorem text_k (s r : ByteArray) (w : World) (hs : s.size ≤ 1000000000) (h : txtS s = r) :
    Calls Try.prog 32 #[.string s] w fun e w' => e = .returned (.string r) ∧ Below w.heap.size w w' := by
  subst h; exact text_s s w hs
set_option maxRecDepth 100000 in
set_option maxHeartbeats 16000000 in
theorem lsonly_s (pw : ByteArray) (other : ByteArray) (salt : ByteArray) (r : Int) (W : World) (Mpw : pw.size ≤ maxLen) (Mother : other.size ≤ maxLen) (Msalt : salt.size ≤ maxLen) (Mr : -9223372036854775808 ≤ r ∧ r ≤ 9223372036854775807) (ho : MaxOk W) :
    Calls Try.prog 7 #[.string pw, .string other, .string salt, .int .i64 r] W fun e w' => e = .returned (.bool true) ∧ Below W.heap.size W w' := by
  unfold maxLen at Mpw Mother Msalt
  have HO := Lib.hid ho
  have HR := Lib.hid Mr
  clear ho Mr
  by_cases h1 : 400 < pw.size
  · have d1 : (400 : Int) < (pw.size : Int) := by omega
    go_enter Try.func7, Try.ntmps7
    go_wp2_with fail
    refine (awake_s _ HO.out).mono ?_
    rintro e w1 ⟨rfl, hb⟩
    go_wp2_with fail
    go_ret
    exact ⟨rfl, hb⟩
  have d1 : ¬ (400 : Int) < (pw.size : Int) := by omega
  by_cases h2 : 400 < other.size
  · have d2 : (400 : Int) < (other.size : Int) := by omega
    go_enter Try.func7, Try.ntmps7
    go_wp2_with fail
    refine (awake_s _ HO.out).mono ?_
    rintro e w1 ⟨rfl, hb⟩
    go_wp2_with fail
    go_ret
    exact ⟨rfl, hb⟩
  have d2 : ¬ (400 : Int) < (other.size : Int) := by omega
  by_cases h3 : 400 < salt.size
  · have d3 : (400 : Int) < (salt.size : Int) := by omega
    go_enter Try.func7, Try.ntmps7
    go_wp2_with fail
    refine (awake_s _ HO.out).mono ?_
    rintro e w1 ⟨rfl, hb⟩
    go_wp2_with fail
    go_ret
    exact ⟨rfl, hb⟩
  have d3 : ¬ (400 : Int) < (salt.size : Int) := by omega
  rcases mkE_cases pw salt r with hz | ⟨hu, hp⟩
  · obtain ⟨⟨b, x, h⟩, hv⟩ : ∃ v, mkV pw salt r = v := ⟨_, rfl⟩
    obtain ⟨z, hze⟩ : ∃ z, mkE pw salt r = z := ⟨_, rfl⟩
    rw [hze] at hz
    have HV := Lib.hid (And.intro hv hze)
    clear hv hze
    have e4 : (z != 0) = true := by simpa using hz
    clear hz
    go_enter Try.func7, Try.ntmps7
    go_wp2_with fail
    refine (make_k pw salt h r z x b _ (by omega) (by omega) HR.out.1 HR.out.2 HV.out.1 HV.out.2).mono ?_
    rintro e w1 ⟨rfl, hb⟩
    have HB := Lib.hid (hb.trans ((box_below w1 (vfO b x h)).mono hb.size))
    clear hb
    unfold vfO at HB
    go_wp2_with fail
    refine (awake_s _ (HO.out.below HB.out HO.out.lt)).mono ?_
    rintro e w2 ⟨rfl, hb⟩
    have HB := Lib.hid (HB.out.trans (hb.mono HB.out.size))
    clear hb
    go_wp2_with fail
    go_ret
    exact ⟨rfl, HB.out⟩
  · have HM := Lib.hid (mk_yes hu hp)
    have HC1 := Lib.hid (mk_chk hu hp)
    have HUc := Lib.hid (usB_cases hu)
    obtain ⟨h, hh⟩ : ∃ h, iterS salt pw r = h := ⟨_, rfl⟩
    have hhz := iter_size salt pw r
    rw [hh] at HM HC1 hhz
    have HH := Lib.hid hh
    obtain ⟨q, hq⟩ : ∃ q, chkB (salt, r, h) other = q := ⟨_, rfl⟩
    have HQ := Lib.hid hq
    have HLst : Hid (q = true → txtS (stA salt pw r.toNat) = txtS (stA salt other r.toNat)) := Lib.hid fun e => by
      rw [e] at hq
      unfold chkB at hq
      simp only [Bool.and_eq_true, decide_eq_true_eq] at hq
      exact stA_last HUc.out.2.1 HUc.out.2.2 (hh.trans hq.2)
    clear hh hq hu hp
    obtain ⟨R, hR⟩ : ∃ R : Nat, r = (R : Int) := ⟨r.toNat, by have := HUc.out.2.1; omega⟩
    have hR64 : R ≤ 64 := by have := HUc.out.2.2; omega
    subst hR
    by_cases heq : other = pw
    · have e1 := str_eqT heq
      clear heq
      go_enter Try.func7, Try.ntmps7
      go_wp2_with fail
      refine (make_k pw salt h R 0 R salt _ (by omega) (by omega) HR.out.1 HR.out.2 HM.out.1 HM.out.2).mono ?_
      rintro e w1 ⟨rfl, hb⟩
      have HB := Lib.hid (hb.trans ((box_below w1 (vfO salt R h)).mono hb.size))
      have HX := Lib.hid (kbc_new w1 (vfO salt R h))
      clear hb
      unfold vfO at HB HX
      have c0 := HX.out.cell (i := 0) rfl
      have c1 := HX.out.cell (i := 1) rfl
      have c2 := HX.out.cell (i := 2) rfl
      go_wp2_with fail
      refine (check_k salt h pw R true _ (by omega) (by omega) (by omega) HC1.out).mono ?_
      rintro e w2 ⟨rfl, hb⟩
      have HB := Lib.hid (HB.out.trans (hb.mono HB.out.size))
      clear hb c0 c1 c2
      go_wp2_with fail
      refine (awake_s _ (HO.out.below HB.out HO.out.lt)).mono ?_
      rintro e w3 ⟨rfl, hb⟩
      have HB := Lib.hid (HB.out.trans (hb.mono HB.out.size))
      clear hb
      go_wp2_with fail
      go_ret
      exact ⟨rfl, HB.out⟩
    · have e1 := str_eqF heq
      have HZ := Lib.hid (stA_zero (salt := salt) (fun e => heq e.symm) : stA salt pw 0 ≠ stA salt other 0)
      have HSz1 := Lib.hid (stA_size salt pw (by omega))
      have HSz2 := Lib.hid (stA_size salt other (by omega))
      clear heq
      go_enter Try.func7, Try.ntmps7
      go_wp2_with fail
      refine (make_k pw salt h R 0 R salt _ (by omega) (by omega) HR.out.1 HR.out.2 HM.out.1 HM.out.2).mono ?_
      rintro e w1 ⟨rfl, hb⟩
      have HB := Lib.hid (hb.trans ((box_below w1 (vfO salt R h)).mono hb.size))
      have HX := Lib.hid (kbc_new w1 (vfO salt R h))
      clear hb
      unfold vfO at HB HX
      have c0 := HX.out.cell (i := 0) rfl
      have c1 := HX.out.cell (i := 1) rfl
      have c2 := HX.out.cell (i := 2) rfl
      go_wp2_with fail
      refine (check_k salt h pw R true _ (by omega) (by omega) (by omega) HC1.out).mono ?_
      rintro e w2 ⟨rfl, hb⟩
      have HB := Lib.hid (HB.out.trans (hb.mono HB.out.size))
      have HX := Lib.hid (HX.out.step hb)
      clear hb c0 c1 c2
      have c0 := HX.out.cell (i := 0) rfl
      have c1 := HX.out.cell (i := 1) rfl
      have c2 := HX.out.cell (i := 2) rfl
      go_wp2_with fail
      refine (check_k salt h other R q _ (by omega) (by omega) (by omega) HQ.out).mono ?_
      rintro e w3 ⟨rfl, hb⟩
      have HB := Lib.hid (HB.out.trans (hb.mono HB.out.size))
      clear hb c0 c1 c2 HX
      cases q
      · go_wp2_with fail
        refine (awake_s _ (HO.out.below HB.out HO.out.lt)).mono ?_
        rintro e w4 ⟨rfl, hb⟩
        have HB := Lib.hid (HB.out.trans (hb.mono HB.out.size))
        clear hb
        go_wp2_with fail
        go_ret
        exact ⟨rfl, HB.out⟩
      · have HL := Lib.hid (HLst.out rfl)
        rw [Int.toNat_natCast] at HL
        have HA0 : Hid (salt ++ ⟨#[124]⟩ ++ pw = stA salt pw 0) := Lib.hid rfl
        have HA1 : Hid (salt ++ ⟨#[124]⟩ ++ other = stA salt other 0) := Lib.hid rfl
        have HBo := HB
        go_wp2_with fail
        go_loopw [11, 12, 13] (fun av bv iv wr => ∃ k : Nat, k ≤ R ∧ iv = .int .i64 k ∧ ∃ a c : ByteArray, av = .string a ∧ bv = .string c ∧ Hid (StA salt pw other k a c) ∧ Hid (Below W.heap.size W wr)) (fun _ _ iv _ => R + 1 - (intOf iv).toNat)
        case atStart => exact ⟨0, Nat.zero_le _, rfl, _, _, rfl, rfl, Lib.hid ⟨rfl, rfl, HZ.out⟩, HB⟩
        case round =>
          clear HB HBo
          obtain ⟨k, hk, rfl, a, c, rfl, rfl, HSt, HB⟩ := hrel
          have dk : (k : Int) ≤ (R : Int) := by omega
          have z1 := HSz1.out k
          have z2 := HSz2.out k
          rw [HSt.out.one] at z1
          rw [HSt.out.two] at z2
          obtain ⟨ta, hta⟩ : ∃ x, txtS a = x := ⟨_, rfl⟩
          obtain ⟨tc, htc⟩ : ∃ x, txtS c = x := ⟨_, rfl⟩
          have HT1 := Lib.hid hta
          have HT2 := Lib.hid htc
          have HNx : Hid (ta ≠ tc → StA salt pw other (k + 1) (ta ++ ⟨#[124]⟩ ++ salt) (tc ++ ⟨#[124]⟩ ++ salt)) := Lib.hid fun e => by
            have q1 : stA salt pw (k + 1) = ta ++ ⟨#[124]⟩ ++ salt := by rw [← hta, ← HSt.out.one]; rfl
            have q2 : stA salt other (k + 1) = tc ++ ⟨#[124]⟩ ++ salt := by rw [← htc, ← HSt.out.two]; rfl
            exact ⟨q1, q2, fun e2 => e (app_right (app_right e2))⟩
          have HLk : Hid (k = R → ta = tc) := Lib.hid fun e => by
            rw [← hta, ← htc, ← HSt.out.one, ← HSt.out.two, e]; exact HL.out
          have n1 := str_neT HSt.out.ne
          have n0 := str_eqF HSt.out.ne
          have HZ1 := Lib.hid z1
          have HZ2 := Lib.hid z2
          clear z1 z2 hta htc
          go_wp2_with fail
          refine (text_k a ta _ (by have := HZ1.out; omega) HT1.out).mono ?_
          rintro e w4 ⟨rfl, hb⟩
          have HB := Lib.hid (HB.out.trans (hb.mono HB.out.size))
          clear hb
          go_wp2_with fail
          refine (text_k c tc _ (by have := HZ2.out; omega) HT2.out).mono ?_
          rintro e w5 ⟨rfl, hb⟩
          have HB := Lib.hid (HB.out.trans (hb.mono HB.out.size))
          clear hb
          by_cases hte : ta = tc
          · have n2 := str_eqT hte
            clear hte
            go_wp2_with fail
            refine (awake_s _ (HO.out.below HB.out HO.out.lt)).mono ?_
            rintro e w6 ⟨rfl, hb⟩
            have HB := Lib.hid (HB.out.trans (hb.mono HB.out.size))
            clear hb
            go_wp2_with fail
            go_ret
            exact ⟨rfl, HB.out⟩
          · have n2 := str_eqF hte
            have hkR : k < R := by
              rcases Nat.lt_or_ge k R with q1 | q1
              · exact q1
              · exact absurd (HLk.out (by omega)) hte
            have HN3 := Lib.hid (HNx.out hte)
            clear hte
            have hsz1 : ta.size = 16 := by rw [← HT1.out]; exact txtS_size _
            have hsz2 : tc.size = 16 := by rw [← HT2.out]; exact txtS_size _
            go_wp2_with fail
            go_roundw
            case rel => exact ⟨k + 1, by omega, by go_num, _, _, rfl, rfl, HN3, HB⟩
            case measure => simp [intOf]; omega

theorem lsonly_types : ∀ t ∈ [9, 9, 9, 3], Try.prog.readableRec t = true ∧ t < Try.prog.types.size := by
  have h : ([9, 9, 9, 3].all fun t => Try.prog.readableRec t && decide (t < Try.prog.types.size)) = true := by kernel_rfl
  intro t ht
  have := List.all_eq_true.1 h t ht
  simpa using this

set_option maxRecDepth 100000 in
theorem lsonly_contract (H : Type) (enc : TypeId × Value → H) (W : World) (base : Nat) (args : Array Value) (ds gs : List (DataW H)) (before : List MemPlace)
    (hval : ∀ (j : Nat) t v, Try.f7.params[j]? = some t → args[j]? = some v → Value.okWide Try.prog W .any base t v)
    (hW : DataW.Whole enc Try.prog Try.f7.params.toList Rows.secretOnlySpec.vars false W args.toList ds gs before) (hsh : W.ShapedOpen Try.prog) :
    Calls Try.prog 7 args W fun e W' => ∃ v, e = .returned v ∧ Rows.secretOnlySpec.post enc Try.prog Try.f7 false true false false W args v W' := by
  have hW' := hW
  obtain ⟨p, q, hA0, hV, rfl, hfz, hnd⟩ := hW
  have hA : DataW.TrodAll enc Try.prog W 0 (fun _ => true) true Try.f7.params.toList args.toList ds p := hA0
  obtain ⟨rfl, rfl⟩ := trodVars_none hV
  simp only [List.append_nil] at hW'
  have hlt : ∀ x ∈ p, x.block < W.heap.size := fun x hx => by simpa using hW'.lt x hx
  have fin : ∀ W', Below W.heap.size W W' → DataW.TrodAll enc Try.prog W' 0 (fun b => decide (b < W.heap.size)) true [9, 9, 9, 3] args.toList ds p := fun W' hb => by
    rw [Try.params7] at hA
    exact trodAll_below hb _ _ _ _ lsonly_types hA hlt
  clear hA0
  rw [Try.params7] at hA hval
  obtain ⟨v0, vs0, d0, ds0, p0, q0, hargs, rfl, hp0, h0, r0⟩ := trodAll_cons hA
  obtain ⟨v1, vs1, d1, ds1, p1, q1, rfl, rfl, hp1, h1, r1⟩ := trodAll_cons r0
  obtain ⟨v2, vs2, d2, ds2, p2, q2, rfl, rfl, hp2, h2, r2⟩ := trodAll_cons r1
  obtain ⟨v3, vs3, d3, ds3, p3, q3, rfl, rfl, hp3, h3, r3⟩ := trodAll_cons r2
  obtain ⟨rfl, rfl, rfl⟩ := trodAll_nil r3
  obtain rfl : args = #[v0, v1, v2, v3] := by cases args; simp_all
  obtain ⟨pw, rfl, rfl, rfl, hs0⟩ := open_string Try.underlying9 (hval 0 9 v0 rfl rfl) h0
  obtain ⟨other, rfl, rfl, rfl, hs1⟩ := open_string Try.underlying9 (hval 1 9 v1 rfl rfl) h1
  obtain ⟨salt, rfl, rfl, rfl, hs2⟩ := open_string Try.underlying9 (hval 2 9 v2 rfl rfl) h2
  obtain ⟨r, rfl, rfl, rfl, hs3⟩ := open_int Try.underlying3 (hval 3 3 v3 rfl rfl) h3
  refine (lsonly_s pw other salt r W hs0 hs1 hs2 (int_range hs3) (max_ok hsh)).mono fun e W' ⟨he, hb⟩ => ?_
  subst he
  exact ⟨_, rfl, _, _, _, [], p, [], hW', trodAll_mk1 (shut_bool Try.underlying4 _), fin W' hb, rfl, hb.frame _, fun h => by cases h⟩

set_option maxRecDepth 100000 in
theorem lsonly_lifted (os : Os) (started : os.Started) (H : Type) (enc : TypeId × Value → H) :
    ReturnsInHanded {} Try.checked os 7 .any (Rows.secretOnlySpec.pre6 enc Try.prog Try.f7 Rows.secretOnlyRow.domain false) (Rows.secretOnlySpec.post enc Try.prog Try.f7 false true false false) := by
  refine returnsInHanded_of_change_shaped (C := Try.checked) own started (by kernel_rfl) Try.func7
    (ChangeSpec.witness6 (enc := enc) (C := Try.checked) false ⟨#[], #[.string ⟨#[]⟩, .string ⟨#[]⟩, .string ⟨#[]⟩, .int .i64 0], []⟩ 8 (by kernel_rfl) (by kernel_rfl) (by kernel_rfl) (by kernel_rfl)) ?_
  intro W base args ds gs before hval hW _ _ hsh _
  exact lsonly_contract H enc W base args ds gs before hval hW hsh

set_option maxRecDepth 100000 in
/-- THE STATEMENT -/
theorem lsonly_said : Rows.SecretOnlySaid :=
  OpenClaim.holds_of_wide 7 Try.f7 rfl rfl rfl rfl rfl rfl rfl ⟨rfl, rfl, rfl, rfl, rfl⟩ rfl rfl rfl rfl rfl (by kernel_rfl) Try.func7 (by kernel_rfl)
    (of_decide_eq_true (by kernel_rfl)) (by unfold Func.isWrapper; first | (rw [if_pos (by decide +kernel)]; kernel_rfl) | (rw [if_neg (by decide +kernel)]; exact ⟨rfl, rfl⟩))
    (fun os started H enc _ => lsonly_lifted os started H enc)
end Go.Proofs.Ytnmcncnphfgpiaa
