/-
  Proved: identitylaw22.SecretMany returns true for all arguments. No condition beyond the row's own.
-/
import Derived.Test.YtnmcncnphfgpiaaSecNa
import Derived.Deep.RegionHeld3
set_option linter.unusedVariables false
set_option linter.unusedSimpArgs false
set_option linter.unnecessarySimpa false
namespace Go.Proofs.Ytnmcncnphfgpiaa
open Go.ChangeShapes Go.WideShapes Go.ChangeAt Go.RowKit Go.PlainAid
open Go.ChangeMaps (open_string shut_string)

theorem lkN_many : LkN 256 1099511627776 10 := ⟨by decide, by decide, by decide, by decide, by decide, by decide⟩
theorem nm_size (n : Nat) : (nmS n).size ≤ 1000000000 := by show 3 ≤ _; decide
set_option maxRecDepth 100000 in
set_option maxHeartbeats 16000000 in
theorem lsmany_s (us : Int) (fs : Int) (W : World) (Mus : -9223372036854775808 ≤ us ∧ us ≤ 9223372036854775807) (Mfs : -9223372036854775808 ≤ fs ∧ fs ≤ 9223372036854775807) (ho : MaxOk W) :
    Calls Try.prog 6 #[.int .i64 us, .int .i64 fs] W fun e w' => e = .returned (.bool true) ∧ Below W.heap.size W w' := by
  have HO := Lib.hid ho
  clear ho Mus Mfs
  obtain ⟨N, hN⟩ : ∃ N : Nat, max 0 (min us 300) = (N : Int) := ⟨(max 0 (min us 300)).toNat, by omega⟩
  obtain ⟨F, hF⟩ : ∃ F : Nat, max 0 (min fs 300) = (F : Int) := ⟨(max 0 (min fs 300)).toNat, by omega⟩
  have hN3 : N ≤ 300 := by omega
  have hF3 : F ≤ 300 := by omega
  have H0 : Hid (usM 0 = []) := Lib.hid rfl
  have HNx : Hid (∀ i, i < N → failA 256 1099511627776 10 (usM i) (nmS i) 1 = usM (i + 1)) := Lib.hid fun i hi => usM_next (by omega)
  have HFl : Hid (∀ i, i < N → failsA 1099511627776 (usM N) (nmS i) 2 = if i < 256 then 1 else 0) := Lib.hid fun i hi => usM_fails hi hN3
  obtain ⟨A0, hA0⟩ : ∃ A, clearA (usM N) (nmS 0) = A := ⟨_, rfl⟩
  have hA1 : usO A0 (nmS 0) = none := by rw [← hA0, usO_clear, if_pos rfl]
  have hA2 : A0.length < 256 := by
    have h1 := clear_len (usM_nod N) (nmS 0)
    rw [hA0, usM_len] at h1
    rcases Nat.eq_zero_or_pos N with h | h
    · have h2 : A0.length ≤ min N 256 := by split at h1 <;> omega
      omega
    · rw [usM_some (i := N) (n := 0) (by omega)] at h1
      have h2 : A0.length + 1 = min N 256 := h1
      omega
  have HCl := Lib.hid hA0
  have HF0 : Hid (usF0 A0 0 = A0) := Lib.hid rfl
  have HFn : Hid (∀ j, failA 256 1099511627776 10 (usF0 A0 j) (nmS 0) 3 = usF0 A0 (j + 1)) := Lib.hid fun j => usF0_next hA1 hA2 j
  have HFf := Lib.hid (usF0_fails hA1 F)
  have HFk := Lib.hid (usF0_lock hA1 F)
  obtain ⟨G, hG⟩ : ∃ G : Nat, min F 256 = G := ⟨_, rfl⟩
  rw [hG] at HFf
  have hG2 : min (F : Int) 256 = (G : Int) := by omega
  have hG3 : ((G : Int) == (G : Int)) = true := beq_self_eq_true _
  have hdF : decide ((256 : Int) ≤ (F : Int)) = decide (256 ≤ F) := by rw [decide_eq_decide]; omega
  obtain ⟨kb, hkb⟩ : ∃ kb, decide (256 ≤ F) = kb := ⟨_, rfl⟩
  rw [hkb] at HFk hdF
  have hkk : (kb == kb) = true := beq_self_eq_true _
  have HNm := Lib.hid (fun (i : Nat) (hi : i ≤ 300) W => name_s i W (by omega))
  clear hA0 hA1 hA2 hG hkb
  go_enter Try.func6, Try.ntmps6
  go_wp2_with fail
  refine (newLocks_k 256 1099511627776 10 1099511627776 10 _ (by decide) (by decide) lkN_many).mono ?_
  rintro e w1 ⟨b, rfl, hlo⟩
  have HL : Hid (LO W b 256 1099511627776 10 (usM 0) w1) := Lib.hid (by rw [H0.out]; exact hlo)
  clear hlo
  go_wp2_with fail
  go_loopw [7] (fun iv wr => ∃ i : Nat, i ≤ N ∧ iv = .int .i64 i ∧ Hid (LO W b 256 1099511627776 10 (usM i) wr)) (fun iv _ => N - (intOf iv).toNat)
  case atStart => exact ⟨0, Nat.zero_le _, rfl, HL⟩
  case round =>
    clear HL
    obtain ⟨i, hi, rfl, HL⟩ := hrel
    by_cases hlt : i < N
    · have di : (i : Int) < (N : Int) := by omega
      go_wp2_with fail
      refine (HNm.out i (by omega) _).mono ?_
      rintro e w2 ⟨rfl, hb⟩
      have HL := Lib.hid (HL.out.step hb)
      clear hb
      go_wp2_with fail
      refine (fail_k _ b 256 1099511627776 10 (usM i) (usM (i + 1)) (nmS i) 1 _ HL.out.lk (nm_size i) (HNx.out i hlt)).mono ?_
      rintro e w3 ⟨rfl, hl, hf⟩
      have HL := Lib.hid (HL.out.fail hl hf)
      clear hl hf
      go_wp2_with fail
      go_roundw
      case rel => exact ⟨i + 1, by omega, by go_num, HL⟩
      case measure => simp [intOf]; omega
    · obtain rfl : i = N := by omega
      go_wp2_with fail
      go_loopw [8] (fun iv wq => ∃ j : Nat, j ≤ i ∧ iv = .int .i64 j ∧ Hid (LO W b 256 1099511627776 10 (usM i) wq)) (fun iv _ => i - (intOf iv).toNat)
      case atStart => exact ⟨0, Nat.zero_le _, rfl, HL⟩
      case round =>
        clear HL
        obtain ⟨j, hj, rfl, HL⟩ := hrel
        by_cases hl2 : j < i
        · have dj : (j : Int) < (i : Int) := by omega
          have hfl := HFl.out j hl2
          by_cases h6 : j < 256
          · rw [if_pos h6] at hfl
            have HFj := Lib.hid hfl
            have d6 : ¬ (256 : Int) ≤ (j : Int) := by omega
            clear hfl
            go_wp2_with fail
            refine (HNm.out j (by omega) _).mono ?_
            rintro e w2 ⟨rfl, hb⟩
            have HL := Lib.hid (HL.out.step hb)
            clear hb
            go_wp2_with fail
            refine (fails_k _ b 256 1099511627776 10 (usM i) (nmS j) 2 1 _ HL.out.lk (nm_size j) HFj.out).mono ?_
            rintro e w3 ⟨rfl, hb⟩
            have HL := Lib.hid (HL.out.step hb)
            clear hb
            go_wp2_with fail
            go_roundw
            case rel => exact ⟨j + 1, by omega, by go_num, HL⟩
            case measure => simp [intOf]; omega
          · rw [if_neg h6] at hfl
            have HFj := Lib.hid hfl
            have d6 : (256 : Int) ≤ (j : Int) := by omega
            clear hfl
            go_wp2_with fail
            refine (HNm.out j (by omega) _).mono ?_
            rintro e w2 ⟨rfl, hb⟩
            have HL := Lib.hid (HL.out.step hb)
            clear hb
            go_wp2_with fail
            refine (fails_k _ b 256 1099511627776 10 (usM i) (nmS j) 2 0 _ HL.out.lk (nm_size j) HFj.out).mono ?_
            rintro e w3 ⟨rfl, hb⟩
            have HL := Lib.hid (HL.out.step hb)
            clear hb
            go_wp2_with fail
            go_roundw
            case rel => exact ⟨j + 1, by omega, by go_num, HL⟩
            case measure => simp [intOf]; omega
        · obtain rfl : j = i := by omega
          go_wp2_with fail
          refine (HNm.out 0 (by omega) _).mono ?_
          rintro e w2 ⟨rfl, hb⟩
          have HL := Lib.hid (HL.out.step hb)
          clear hb
          go_wp2_with fail
          refine (clear_k _ b 256 1099511627776 10 (usM j) A0 (nmS 0) _ HL.out.lk (nm_size 0) HCl.out).mono ?_
          rintro e w3 ⟨rfl, hl, hf⟩
          have HL := Lib.hid (HL.out.clear hl hf)
          rw [← HF0.out] at HL
          clear hl hf
          go_wp2_with fail
          go_loopw [10] (fun iv wz => ∃ k : Nat, k ≤ F ∧ iv = .int .i64 k ∧ Hid (LO W b 256 1099511627776 10 (usF0 A0 k) wz)) (fun iv _ => F - (intOf iv).toNat)
          case atStart => exact ⟨0, Nat.zero_le _, rfl, HL⟩
          case round =>
            clear HL
            obtain ⟨k, hk, rfl, HL⟩ := hrel
            by_cases hl3 : k < F
            · have dk : (k : Int) < (F : Int) := by omega
              go_wp2_with fail
              refine (HNm.out 0 (by omega) _).mono ?_
              rintro e w2 ⟨rfl, hb⟩
              have HL := Lib.hid (HL.out.step hb)
              clear hb
              go_wp2_with fail
              refine (fail_k _ b 256 1099511627776 10 (usF0 A0 k) (usF0 A0 (k + 1)) (nmS 0) 3 _ HL.out.lk (nm_size 0) (HFn.out k)).mono ?_
              rintro e w3 ⟨rfl, hl, hf⟩
              have HL := Lib.hid (HL.out.fail hl hf)
              clear hl hf
              go_wp2_with fail
              go_roundw
              case rel => exact ⟨k + 1, by omega, by go_num, HL⟩
              case measure => simp [intOf]; omega
            · obtain rfl : k = F := by omega
              go_wp2_with fail
              refine (HNm.out 0 (by omega) _).mono ?_
              rintro e w2 ⟨rfl, hb⟩
              have HL := Lib.hid (HL.out.step hb)
              clear hb
              go_wp2_with fail
              refine (fails_k _ b 256 1099511627776 10 (usF0 A0 k) (nmS 0) 3 G _ HL.out.lk (nm_size 0) HFf.out).mono ?_
              rintro e w3 ⟨rfl, hb⟩
              have HL := Lib.hid (HL.out.step hb)
              clear hb
              go_wp2_with fail
              refine (HNm.out 0 (by omega) _).mono ?_
              rintro e w4 ⟨rfl, hb⟩
              have HL := Lib.hid (HL.out.step hb)
              clear hb
              go_wp2_with fail
              refine (locked_k _ b 256 1099511627776 10 (usF0 A0 k) (nmS 0) 3 kb _ HL.out.lk (nm_size 0) HFk.out).mono ?_
              rintro e w5 ⟨rfl, hb⟩
              have HL := Lib.hid (HL.out.step hb)
              clear hb
              go_wp2_with fail
              refine (awake_s _ (HO.out.below HL.out.low HO.out.lt)).mono ?_
              rintro e w8 ⟨rfl, hb⟩
              have HB := Lib.hid (HL.out.low.trans (hb.mono HL.out.low.size))
              clear hb
              go_wp2_with fail
              go_ret
              exact ⟨rfl, HB.out⟩

theorem lsmany_types : ∀ t ∈ [3, 3], Try.prog.readableRec t = true ∧ t < Try.prog.types.size := by
  have h : ([3, 3].all fun t => Try.prog.readableRec t && decide (t < Try.prog.types.size)) = true := by kernel_rfl
  intro t ht
  have := List.all_eq_true.1 h t ht
  simpa using this

set_option maxRecDepth 100000 in
theorem lsmany_contract (H : Type) (enc : TypeId × Value → H) (W : World) (base : Nat) (args : Array Value) (ds gs : List (DataW H)) (before : List MemPlace)
    (hval : ∀ (j : Nat) t v, Try.f6.params[j]? = some t → args[j]? = some v → Value.okWide Try.prog W .any base t v)
    (hW : DataW.Whole enc Try.prog Try.f6.params.toList Rows.secretManySpec.vars false W args.toList ds gs before) (hsh : W.ShapedOpen Try.prog) :
    Calls Try.prog 6 args W fun e W' => ∃ v, e = .returned v ∧ Rows.secretManySpec.post enc Try.prog Try.f6 false true false false W args v W' := by
  have hW' := hW
  obtain ⟨p, q, hA0, hV, rfl, hfz, hnd⟩ := hW
  have hA : DataW.TrodAll enc Try.prog W 0 (fun _ => true) true Try.f6.params.toList args.toList ds p := hA0
  obtain ⟨rfl, rfl⟩ := trodVars_none hV
  simp only [List.append_nil] at hW'
  have hlt : ∀ x ∈ p, x.block < W.heap.size := fun x hx => by simpa using hW'.lt x hx
  have fin : ∀ W', Below W.heap.size W W' → DataW.TrodAll enc Try.prog W' 0 (fun b => decide (b < W.heap.size)) true [3, 3] args.toList ds p := fun W' hb => by
    rw [Try.params6] at hA
    exact trodAll_below hb _ _ _ _ lsmany_types hA hlt
  clear hA0
  rw [Try.params6] at hA hval
  obtain ⟨v0, vs0, d0, ds0, p0, q0, hargs, rfl, hp0, h0, r0⟩ := trodAll_cons hA
  obtain ⟨v1, vs1, d1, ds1, p1, q1, rfl, rfl, hp1, h1, r1⟩ := trodAll_cons r0
  obtain ⟨rfl, rfl, rfl⟩ := trodAll_nil r1
  obtain rfl : args = #[v0, v1] := by cases args; simp_all
  obtain ⟨us, rfl, rfl, rfl, hs0⟩ := open_int Try.underlying3 (hval 0 3 v0 rfl rfl) h0
  obtain ⟨fs, rfl, rfl, rfl, hs1⟩ := open_int Try.underlying3 (hval 1 3 v1 rfl rfl) h1
  refine (lsmany_s us fs W (int_range hs0) (int_range hs1) (max_ok hsh)).mono fun e W' ⟨he, hb⟩ => ?_
  subst he
  exact ⟨_, rfl, _, _, _, [], p, [], hW', trodAll_mk1 (shut_bool Try.underlying4 _), fin W' hb, rfl, hb.frame _, fun h => by cases h⟩

set_option maxRecDepth 100000 in
theorem lsmany_lifted (os : Os) (started : os.Started) (H : Type) (enc : TypeId × Value → H) :
    ReturnsInHanded {} Try.checked os 6 .any (Rows.secretManySpec.pre6 enc Try.prog Try.f6 Rows.secretManyRow.domain false) (Rows.secretManySpec.post enc Try.prog Try.f6 false true false false) := by
  refine returnsInHanded_of_change_shaped (C := Try.checked) own started (by kernel_rfl) Try.func6
    (ChangeSpec.witness6 (enc := enc) (C := Try.checked) false ⟨#[], #[.int .i64 0, .int .i64 0], []⟩ 8 (by kernel_rfl) (by kernel_rfl) (by kernel_rfl) (by kernel_rfl)) ?_
  intro W base args ds gs before hval hW _ _ hsh _
  exact lsmany_contract H enc W base args ds gs before hval hW hsh

set_option maxRecDepth 100000 in
/-- THE STATEMENT -/
theorem lsmany_said : Rows.SecretManySaid :=
  OpenClaim.holds_of_wide 6 Try.f6 rfl rfl rfl rfl rfl rfl rfl ⟨rfl, rfl, rfl, rfl, rfl⟩ rfl rfl rfl rfl rfl (by kernel_rfl) Try.func6 (by kernel_rfl)
    (of_decide_eq_true (by kernel_rfl)) (by unfold Func.isWrapper; first | (rw [if_pos (by decide +kernel)]; kernel_rfl) | (rw [if_neg (by decide +kernel)]; exact ⟨rfl, rfl⟩))
    (fun os started H enc _ => lsmany_lifted os started H enc)
end Go.Proofs.Ytnmcncnphfgpiaa
