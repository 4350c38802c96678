/-
  Proved: identitylaw28.ProofUnique returns true for all arguments (the tied card). No condition beyond the row's own.
-/
import Derived.Test.YtbogmmdmfbcbnaaDoorPrfLaws
import Derived.Deep.RegionHeld3
set_option linter.unusedVariables false
set_option linter.unusedSimpArgs false
set_option linter.unnecessarySimpa false
namespace Go.Proofs.YtbogmmdmfbcbnaaDoor
open Go.ChangeShapes Go.WideShapes Go.ChangeAt Go.RowKit Go.PlainAid
open Go.ChangeMaps (open_string shut_string)

theorem dec_bytes (n : Nat) : ∀ c ∈ Lib.decDigits n, 48 ≤ c.toNat ∧ c.toNat ≤ 57 := by
  induction n using Nat.strongRecOn with
  | _ n ih =>
    intro c hc
    rw [Lib.decDigits] at hc
    split at hc
    · next h =>
      simp only [List.mem_singleton] at hc
      subst hc
      rw [UInt8.toNat_ofNat']; omega
    · next h =>
      rw [List.mem_append] at hc
      rcases hc with hc | hc
      · exact ih (n / 10) (by omega) c hc
      · simp only [List.mem_singleton] at hc
        subst hc
        rw [UInt8.toNat_ofNat']; omega
theorem itoa_free (n : Int) : (58 : UInt8) ∉ Lib.itoa n := by
  have hd : ∀ m : Nat, (58 : UInt8) ∉ Lib.decDigits m := fun m h => by have := dec_bytes m _ h; revert this; decide
  unfold Lib.itoa
  split
  · intro h
    rcases List.mem_cons.1 h with q | q
    · revert q; decide
    · exact hd _ q
  · exact hd _
theorem itoa_one {n m : Int} (h0 : -9223372036854775808 ≤ n) (h1 : n ≤ 9223372036854775807) (k0 : -9223372036854775808 ≤ m) (k1 : m ≤ 9223372036854775807) (h : Lib.itoa n = Lib.itoa m) : n = m := by
  have a := readI_itoa n h0 h1
  rw [h, readI_itoa m k0 k1] at a
  injection a with a _
  exact a.symm
def unT (sd : ByteArray) (n : Int) : ByteArray := ofL (Lib.itoa n) ++ ⟨#[58]⟩ ++ sd
theorem unT_one {sd ot : ByteArray} {n m : Int} (h0 : -9223372036854775808 ≤ n) (h1 : n ≤ 9223372036854775807) (k0 : -9223372036854775808 ≤ m) (k1 : m ≤ 9223372036854775807) (h : unT sd n = unT ot m) : sd = ot ∧ n = m := by
  have hd : ∀ (s : ByteArray) (x : Int), (unT s x).data.toList = Lib.itoa x ++ 58 :: s.data.toList := fun s x => by
    unfold unT
    rw [Go.Joins.data_append, Go.Joins.data_append]
    show Lib.itoa x ++ [58] ++ _ = _
    simp
  have e1 := cut_at (b := sd.data.toList) (itoa_free n)
  have e2 := cut_at (b := ot.data.toList) (itoa_free m)
  rw [← hd sd n, h, hd ot m, e2] at e1
  injection e1 with a b
  injection b with b _
  exact ⟨by rw [← Lib.mk_data sd, ← b, Lib.mk_data], itoa_one h0 h1 k0 k1 a.symm⟩
theorem hexD_word : ∀ d : Nat, d < 16 → wordP ((hexD d).toNat : Int) = true := by decide +kernel
theorem hexK_word : ∀ (k n : Nat), ∀ c ∈ hexK k n, wordP (c.toNat : Int) = true
  | 0, n, c, h => by unfold hexK at h; simp at h
  | k + 1, n, c, h => by
    have e : hexK (k + 1) n = hexK k (n / 16) ++ [hexD (n % 16)] := by rw [hexK]
    rw [e] at h
    rcases List.mem_append.1 h with h | h
    · exact hexK_word k _ c h
    · rw [List.mem_singleton.1 h]; exact hexD_word _ (by omega)
theorem unS_word (s : ByteArray) (n : Int) : wordB (unS s n) = true := by
  have hz := unS_size s n
  unfold wordB
  rw [hz]
  have : allB wordP (unS s n) = true := allB_true fun j hj => by
    rw [bt_at _ _ hj]
    have hm : (unS s n).data.toList[j]'(by rw [← Lib.size_eq]; exact hj) ∈ (unS s n).data.toList := List.getElem_mem _
    revert hm
    generalize (unS s n).data.toList[j]'(by rw [← Lib.size_eq]; exact hj) = c
    intro hm
    unfold unS at hm
    rw [Go.Joins.data_append] at hm
    rcases List.mem_append.1 hm with h | h
    · have h : c ∈ [(117 : UInt8)] := h
      rw [List.mem_singleton.1 h]; decide
    · exact hexK_word 16 _ c h
  rw [this]; decide
theorem unS_is (s : ByteArray) (n : Int) : unS s n = ⟨#[117]⟩ ++ txtS (unT s n) := rfl
theorem unT_size {s : ByteArray} {n : Int} (h0 : -9223372036854775808 ≤ n) (h1 : n ≤ 9223372036854775807) (hs : s.size ≤ 300) : (unT s n).size ≤ 1000 := by
  unfold unT
  rw [ByteArray.size_append, ByteArray.size_append]
  have := itoa_size n h0 h1
  have h2 : (⟨#[58]⟩ : ByteArray).size = 1 := rfl
  omega
set_option maxRecDepth 100000 in
set_option maxHeartbeats 16000000 in
theorem lpunique_s (sd : ByteArray) (ot : ByteArray) (n : Int) (m : Int) (w : World) (hn : (Lit.int .i64 n).wf = true) (hm : (Lit.int .i64 m).wf = true) (ho : POk w) :
    Calls Tryd.prog 5 #[.string sd, .string ot, .int .i64 n, .int .i64 m] w fun e w' => e = .returned (.bool true) ∧ Below w.heap.size w w' := by
  obtain ⟨n0, n1⟩ := int_range hn
  obtain ⟨m0, m1⟩ := int_range hm
  have HB := Lib.hid (box_below w (.cells #[.string sd, .string ot] 9))
  have HO := Lib.hid (ho.below HB.out)
  clear ho
  obtain ⟨gl, hgl⟩ : ∃ gl, lgB [sd, ot] = gl := ⟨_, rfl⟩
  have HLg : Hid (Calls Tryd.prog 9 #[.slice (some ⟨w.heap.size, 0, none⟩) 2 2] (w.alloc (.cells #[.string sd, .string ot] 9)) fun e w' => e = .returned (.bool gl) ∧ w.alloc (.cells #[.string sd, .string ot] 9) = w') := Lib.hid (long_k w.heap.size 2 [sd, ot] gl _ (strs_new w [sd, ot]) rfl (by decide) hgl)
  cases gl with
  | true =>
    clear hgl
    go_enter Tryd.func5, Tryd.ntmps5
    go_wp2_with fail
    refine HLg.out.mono ?_
    rintro e w' ⟨rfl, rfl⟩
    go_wp2_with fail
    refine (live_s _ HO.out).mono ?_
    rintro e wc1 ⟨rfl, hb⟩
    have HB := Lib.hid (HB.out.trans (hb.mono HB.out.size))
    clear hb
    go_wp2_with fail
    go_ret
    exact ⟨rfl, HB.out⟩
  | false =>
    have hsz := lg_out hgl
    have z0 : sd.size ≤ 300 := hsz sd (by simp)
    have z1 : ot.size ≤ 300 := hsz ot (by simp)
    clear hgl hsz
    obtain ⟨u1, hu1⟩ : ∃ u, unS sd n = u := ⟨_, rfl⟩
    obtain ⟨u2, hu2⟩ : ∃ u, unS ot m = u := ⟨_, rfl⟩
    have zu : u1.size = 17 := by rw [← hu1]; exact unS_size _ _
    have hw1 : wordB u1 = true := by rw [← hu1]; exact unS_word _ _
    obtain ⟨t1, ht1⟩ : ∃ t, unT sd n = t := ⟨_, rfl⟩
    obtain ⟨t2, ht2⟩ : ∃ t, unT ot m = t := ⟨_, rfl⟩
    obtain ⟨d1, hd1⟩ : ∃ d, txtS t1 = d := ⟨_, rfl⟩
    obtain ⟨d2, hd2⟩ : ∃ d, txtS t2 = d := ⟨_, rfl⟩
    have zt1 : t1.size ≤ 1000 := by rw [← ht1]; exact unT_size n0 n1 z0
    have zt2 : t2.size ≤ 1000 := by rw [← ht2]; exact unT_size m0 m1 z1
    obtain ⟨i1, hi1⟩ : ∃ i, ofL (Lib.itoa n) = i := ⟨_, rfl⟩
    obtain ⟨i2, hi2⟩ : ∃ i, ofL (Lib.itoa m) = i := ⟨_, rfl⟩
    have zi1 : i1.size ≤ 21 := by rw [← hi1]; exact itoa_size n n0 n1
    have zi2 : i2.size ≤ 21 := by rw [← hi2]; exact itoa_size m m0 m1
    have E1 : i1 ++ ⟨#[58]⟩ ++ sd = t1 := by rw [← hi1, ← ht1]; rfl
    have E2 : i2 ++ ⟨#[58]⟩ ++ ot = t2 := by rw [← hi2, ← ht2]; rfl
    have HU1 := Lib.hid (fun W hW => unique_k sd n u1 W (by omega) n0 n1 hW hu1)
    have HU2 := Lib.hid (fun W hW => unique_k ot m u2 W (by omega) m0 m1 hW hu2)
    have HU3 := Lib.hid (fun W => runique_k sd n u1 W (by omega) n0 n1 hu1)
    have HW := Lib.hid (fun W => word_k u1 true W (by omega) hw1)
    have HI1 := Lib.hid (fun W (hW : POk W) => pint_k n i1 W n0 n1 hW.2 hi1)
    have HI2 := Lib.hid (fun W (hW : POk W) => pint_k m i2 W m0 m1 hW.2 hi2)
    have HT1 := Lib.hid (fun W => text_k t1 d1 W (by omega) hd1)
    have HT2 := Lib.hid (fun W => text_k t2 d2 W (by omega) hd2)
    have q1 := bne_s u1
    obtain ⟨p, hp⟩ : ∃ p, decide (u1 = u2) = p := ⟨_, rfl⟩
    have ep : (u1.toList == u2.toList) = p := by rw [str_b]; exact hp
    have ed : (d1.toList == d2.toList) = p := by
      rw [str_b, ← hp]
      refine decide_eq_decide.2 ?_
      rw [← hu1, ← hu2, unS_is, unS_is, ht1, ht2, hd1, hd2]
      exact ⟨fun h => by rw [h], ba_append_left⟩
    have qp := beq_b p
    have zu' : ((u1.size : Int) != 17) = false := by rw [zu]; rfl
    by_cases ht : t1 = t2
    · obtain ⟨hs, hnm⟩ := unT_one (sd := sd) (ot := ot) n0 n1 m0 m1 (by rw [ht1, ht2]; exact ht)
      have HE1 := Lib.hid E1
      have HE2 := Lib.hid E2
      have q2 : (sd.toList == ot.toList) = true := by rw [hs]; exact beq_s ot
      have q3 : (n == m) = true := by rw [hnm]; exact beq_i m
      have q4 : (t1.toList != t2.toList) = false := by rw [ht]; exact bne_s t2
      have q5 : (t1.toList == t2.toList) = true := by rw [ht]; exact beq_s t2
      clear hu1 hu2 hw1 ht1 ht2 hd1 hd2 hi1 hi2 E1 E2 hp ht hs hnm n0 n1 m0 m1 hn hm zu
      go_enter Tryd.func5, Tryd.ntmps5
      go_wp2_with fail
      refine HLg.out.mono ?_
      rintro e w' ⟨rfl, rfl⟩
      go_wp2_with fail
      refine (HU1.out _ HO.out).mono ?_
      rintro e wc2 ⟨rfl, hb⟩
      have HB := Lib.hid (HB.out.trans (hb.mono HB.out.size))
      have HO := Lib.hid (HO.out.below hb)
      clear hb
      go_wp2_with fail
      refine (HU2.out _ HO.out).mono ?_
      rintro e wc3 ⟨rfl, hb⟩
      have HB := Lib.hid (HB.out.trans (hb.mono HB.out.size))
      have HO := Lib.hid (HO.out.below hb)
      clear hb
      go_wp2_with fail
      refine (HU3.out _).mono ?_
      rintro e wc4 ⟨rfl, hb⟩
      have HB := Lib.hid (HB.out.trans (hb.mono HB.out.size))
      have HO := Lib.hid (HO.out.below hb)
      clear hb
      go_wp2_with fail
      refine (HW.out _).mono ?_
      rintro e w' ⟨rfl, rfl⟩
      go_wp2_with fail
      refine (live_s _ HO.out).mono ?_
      rintro e wl ⟨rfl, hb⟩
      have HB := Lib.hid (HB.out.trans (hb.mono HB.out.size))
      have HO := Lib.hid (HO.out.below hb)
      clear hb
      go_wp2_with fail
      refine (HI1.out _ HO.out).mono ?_
      rintro e wc5 ⟨rfl, hb⟩
      have HB := Lib.hid (HB.out.trans (hb.mono HB.out.size))
      have HO := Lib.hid (HO.out.below hb)
      clear hb
      go_wp2_with fail
      refine (HI2.out _ HO.out).mono ?_
      rintro e wc6 ⟨rfl, hb⟩
      have HB := Lib.hid (HB.out.trans (hb.mono HB.out.size))
      have HO := Lib.hid (HO.out.below hb)
      clear hb
      go_wp2_with fail
      rw [HE1.out, HE2.out]
      refine (HT1.out _).mono ?_
      rintro e wc7 ⟨rfl, hb⟩
      have HB := Lib.hid (HB.out.trans (hb.mono HB.out.size))
      have HO := Lib.hid (HO.out.below hb)
      clear hb
      go_wp2_with fail
      refine (HT2.out _).mono ?_
      rintro e wc8 ⟨rfl, hb⟩
      have HB := Lib.hid (HB.out.trans (hb.mono HB.out.size))
      have HO := Lib.hid (HO.out.below hb)
      clear hb
      go_wp2_with fail
      go_ret
      exact ⟨rfl, HB.out⟩
    · have HE1 := Lib.hid E1
      have HE2 := Lib.hid E2
      obtain ⟨q5, q4⟩ := str_ne ht
      clear hu1 hu2 hw1 ht1 ht2 hd1 hd2 hi1 hi2 E1 E2 hp ht n0 n1 m0 m1 hn hm zu
      go_enter Tryd.func5, Tryd.ntmps5
      go_wp2_with fail
      refine HLg.out.mono ?_
      rintro e w' ⟨rfl, rfl⟩
      go_wp2_with fail
      refine (HU1.out _ HO.out).mono ?_
      rintro e wc9 ⟨rfl, hb⟩
      have HB := Lib.hid (HB.out.trans (hb.mono HB.out.size))
      have HO := Lib.hid (HO.out.below hb)
      clear hb
      go_wp2_with fail
      refine (HU2.out _ HO.out).mono ?_
      rintro e wc10 ⟨rfl, hb⟩
      have HB := Lib.hid (HB.out.trans (hb.mono HB.out.size))
      have HO := Lib.hid (HO.out.below hb)
      clear hb
      go_wp2_with fail
      refine (HU3.out _).mono ?_
      rintro e wc11 ⟨rfl, hb⟩
      have HB := Lib.hid (HB.out.trans (hb.mono HB.out.size))
      have HO := Lib.hid (HO.out.below hb)
      clear hb
      go_wp2_with fail
      refine (HW.out _).mono ?_
      rintro e w' ⟨rfl, rfl⟩
      go_wp2_with fail
      refine (live_s _ HO.out).mono ?_
      rintro e wl ⟨rfl, hb⟩
      have HB := Lib.hid (HB.out.trans (hb.mono HB.out.size))
      have HO := Lib.hid (HO.out.below hb)
      clear hb
      go_wp2_with fail
      refine (HI1.out _ HO.out).mono ?_
      rintro e wc12 ⟨rfl, hb⟩
      have HB := Lib.hid (HB.out.trans (hb.mono HB.out.size))
      have HO := Lib.hid (HO.out.below hb)
      clear hb
      go_wp2_with fail
      refine (HI2.out _ HO.out).mono ?_
      rintro e wc13 ⟨rfl, hb⟩
      have HB := Lib.hid (HB.out.trans (hb.mono HB.out.size))
      have HO := Lib.hid (HO.out.below hb)
      clear hb
      go_wp2_with fail
      rw [HE1.out, HE2.out]
      refine (HT1.out _).mono ?_
      rintro e wc14 ⟨rfl, hb⟩
      have HB := Lib.hid (HB.out.trans (hb.mono HB.out.size))
      have HO := Lib.hid (HO.out.below hb)
      clear hb
      go_wp2_with fail
      refine (HT2.out _).mono ?_
      rintro e wc15 ⟨rfl, hb⟩
      have HB := Lib.hid (HB.out.trans (hb.mono HB.out.size))
      have HO := Lib.hid (HO.out.below hb)
      clear hb
      go_wp2_with fail
      go_ret
      exact ⟨rfl, HB.out⟩

theorem lpunique_types : ∀ t ∈ [9, 9, 3, 3], Tryd.prog.readableRec t = true ∧ t < Tryd.prog.types.size := by
  have h : ([9, 9, 3, 3].all fun t => Tryd.prog.readableRec t && decide (t < Tryd.prog.types.size)) = true := by kernel_rfl
  intro t ht
  have := List.all_eq_true.1 h t ht
  simpa using this

set_option maxRecDepth 100000 in
theorem lpunique_contract (H : Type) (enc : TypeId × Value → H) (W : World) (base : Nat) (args : Array Value) (ds gs : List (DataW H)) (before : List MemPlace)
    (hval : ∀ (j : Nat) t v, Tryd.f5.params[j]? = some t → args[j]? = some v → Value.okWide Tryd.prog W .any base t v)
    (hW : DataW.Whole enc Tryd.prog Tryd.f5.params.toList Rows.proofUniqueSpec.vars false W args.toList ds gs before) (hL : laidMetH Tryd.prog Rows.proofUniqueRow.laid W) (hsh : W.ShapedOpen Tryd.prog) :
    Calls Tryd.prog 5 args W fun e W' => ∃ v, e = .returned v ∧ Rows.proofUniqueSpec.post enc Tryd.prog Tryd.f5 false true false false W args v W' := by
  have hW' := hW
  obtain ⟨p, q, hA0, hV, rfl, hfz, hnd⟩ := hW
  have hA : DataW.TrodAll enc Tryd.prog W 0 (fun _ => true) true Tryd.f5.params.toList args.toList ds p := hA0
  obtain ⟨rfl, rfl⟩ := trodVars_none hV
  simp only [List.append_nil] at hW'
  have hlt : ∀ x ∈ p, x.block < W.heap.size := fun x hx => by simpa using hW'.lt x hx
  have fin : ∀ W', Below W.heap.size W W' → DataW.TrodAll enc Tryd.prog W' 0 (fun b => decide (b < W.heap.size)) true [9, 9, 3, 3] args.toList ds p := fun W' hb => by
    rw [Tryd.params5] at hA
    exact trodAll_below hb _ _ _ _ lpunique_types hA hlt
  clear hA0
  rw [Tryd.params5] at hA hval
  obtain ⟨v0, vs0, d0, ds0, p0, q0, hargs, rfl, hp0, h0, r0⟩ := trodAll_cons hA
  obtain ⟨v1, vs1, d1, ds1, p1, q1, rfl, rfl, hp1, h1, r1⟩ := trodAll_cons r0
  obtain ⟨v2, vs2, d2, ds2, p2, q2, rfl, rfl, hp2, h2, r2⟩ := trodAll_cons r1
  obtain ⟨v3, vs3, d3, ds3, p3, q3, rfl, rfl, hp3, h3, r3⟩ := trodAll_cons r2
  obtain ⟨rfl, rfl, rfl⟩ := trodAll_nil r3
  obtain rfl : args = #[v0, v1, v2, v3] := by cases args; simp_all
  obtain ⟨sd, rfl, rfl, rfl, hs0⟩ := open_string Tryd.underlying9 (hval 0 9 v0 rfl rfl) h0
  obtain ⟨ot, rfl, rfl, rfl, hs1⟩ := open_string Tryd.underlying9 (hval 1 9 v1 rfl rfl) h1
  obtain ⟨n, rfl, rfl, rfl, hs2⟩ := open_int Tryd.underlying3 (hval 2 3 v2 rfl rfl) h2
  obtain ⟨m, rfl, rfl, rfl, hs3⟩ := open_int Tryd.underlying3 (hval 3 3 v3 rfl rfl) h3
  refine (lpunique_s sd ot n m W hs2 hs3 ⟨max_ok hsh, pow_of hL⟩).mono fun e W' ⟨he, hb⟩ => ?_
  subst he
  exact ⟨_, rfl, _, _, _, [], p, [], hW', trodAll_mk1 (shut_bool Tryd.underlying4 _), fin W' hb, rfl, hb.frame _, fun h => by cases h⟩

set_option maxRecDepth 100000 in
theorem lpunique_lifted (os : Os) (started : os.Started) (H : Type) (enc : TypeId × Value → H) (F : Stop.Interp) :
    ReturnsInHanded {} Tryd.checked os 5 .any ((OpenSpec.ofChange Rows.proofUniqueSpec).preRow enc Tryd.prog Tryd.f5 Rows.proofUniqueRow.domain false Rows.proofUniqueRow.laid) (((OpenSpec.ofChange Rows.proofUniqueSpec).at F).post enc Tryd.prog Tryd.f5 false true false false) := by
  refine returnsInHanded_of_row (C := Tryd.checked) (s := OpenSpec.ofChange Rows.proofUniqueSpec) own started (by kernel_rfl) Tryd.func5
    (witness_row (enc := enc) (C := Tryd.checked) false (World.laidAll Tryd.prog os Rows.proofUniqueRow.laid) #[.string ⟨#[]⟩, .string ⟨#[]⟩, .int .i64 0, .int .i64 0] (World.laidAll_os _ _ _)
      (World.shaped_of_ZipB (by kernel_rfl) (by kernel_rfl)) (by kernel_rfl)
      (OpenSpec.preRow_of_cond 8 (x := ([.lit (.string []), .lit (.string []), .lit (.int .i64 0), .lit (.int .i64 0)], [], [])) (by kernel_rfl) (by kernel_rfl) (fun k hk => by cases hk) (by kernel_rfl)
        (by rw [MakeChecks.laidMetH_plain _ _ _ (by kernel_rfl)]; exact laidMet_laidAll _ (by kernel_rfl) (by kernel_rfl)))) ?_
  intro W base args ds gs before hval hW _ _ _ hL hsh _
  exact lpunique_contract H enc W base args ds gs before hval hW hL hsh

set_option maxRecDepth 100000 in
theorem lpunique_said : Rows.ProofUniqueSaid :=
  OpenClaim.holds_of_cond 5 Tryd.f5 rfl rfl rfl rfl rfl rfl rfl ⟨rfl, rfl, rfl, rfl, rfl⟩ rfl rfl rfl rfl rfl (by kernel_rfl) Tryd.func5 (by kernel_rfl)
    (of_decide_eq_true (by kernel_rfl)) (by unfold Func.isWrapper; first | (rw [if_pos (by decide +kernel)]; kernel_rfl) | (rw [if_neg (by decide +kernel)]; exact ⟨rfl, rfl⟩))
    (fun os started H enc _ F => by rw [OpenClaim.pre_eq_preRow]; exact lpunique_lifted os started H enc F)

set_option maxRecDepth 100000 in
theorem lpunique_plain (f : FuncId) (fn : Func) (hf : Tryd.pinned.checked.prog.funcNamed "identity/identitylaw28.ProofUnique" = some f) (hfn : Tryd.pinned.checked.prog.funcs[f]? = some fn) :
    false = Tryd.pinned.checked.prog.looks [] ∧ ∀ (j : Nat) t, fn.params[j]? = some t → Tryd.pinned.checked.prog.wantsStandIn t = false := by
  obtain rfl : f = 5 := Option.some.inj ((show Tryd.prog.funcNamed "identity/identitylaw28.ProofUnique" = some 5 by kernel_rfl).symm.trans hf) |>.symm
  obtain rfl : fn = Tryd.f5 := (Option.some.inj (Tryd.func5.symm.trans hfn)).symm
  refine ⟨by kernel_rfl, fun j t ht => ?_⟩
  rw [Tryd.params5] at ht
  have hm : t ∈ [9, 9, 3, 3] := by simpa using Array.mem_of_getElem? ht
  have hall : ([9, 9, 3, 3].all fun u => !Tryd.prog.wantsStandIn u) = true := by kernel_rfl
  exact (show Tryd.prog.wantsStandIn t = false by simpa using List.all_eq_true.1 hall t hm)

/-- THE CARD -/
theorem lpunique_card : Rows.ProofUniqueCardSaid :=
  Claim7.holds_tied_plain_at .later [] _ _ _ _ lpunique_said (fun _ h => by cases h) (by kernel_rfl) (fun _ h => by cases h) proofUnique_row_tie rfl ⟨rfl, rfl⟩ (by kernel_rfl) rfl lpunique_plain (by kernel_rfl)
end Go.Proofs.YtbogmmdmfbcbnaaDoor
