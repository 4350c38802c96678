/-
  Proved: identitylaw05.NameOrders returns true for every three strings (the tied card). No condition beyond the row's own.
-/
import Derived.Test.YtdjhhofmlefaaaaDoorNamLaws
set_option linter.unusedVariables false
set_option linter.unusedSimpArgs false
set_option linter.unnecessarySimpa false
namespace Go.Proofs.YtdjhhofmlefaaaaDoor
open Go.ChangeShapes Go.WideShapes Go.ChangeAt Go.RowKit Go.PlainAid
open Go.ChangeMaps (open_string shut_string)

set_option maxRecDepth 100000 in
set_option maxHeartbeats 4000000 in
theorem orders_s (a b c : ByteArray) (w : World) :
    Calls Tryd.prog 9 #[.string a, .string b, .string c] w fun e w' => e = .returned (.bool true) ∧ Below w.heap.size w w' := by
  have B0 := Below.refl w.heap.size w
  by_cases h1 : 300 < a.size
  · skip
    go_enter Tryd.func9, Tryd.ntmps9
    go_wp2_with fail
    refine (long_yes a _ h1).mono ?_
    rintro e w' ⟨rfl, rfl⟩
    go_wp2_with fail
    refine (live_s _).mono ?_
    rintro e w1 ⟨rfl, hb⟩
    have B1 := below_next B0 hb
    clear hb
    go_wp2_with fail
    go_ret
    exact ⟨rfl, B1⟩
  by_cases h2 : 300 < b.size
  · skip
    go_enter Tryd.func9, Tryd.ntmps9
    go_wp2_with fail
    refine (long_no a _ h1).mono ?_
    rintro e w' ⟨rfl, rfl⟩
    go_wp2_with fail
    refine (long_yes b _ h2).mono ?_
    rintro e w' ⟨rfl, rfl⟩
    go_wp2_with fail
    refine (live_s _).mono ?_
    rintro e w1 ⟨rfl, hb⟩
    have B1 := below_next B0 hb
    clear hb
    go_wp2_with fail
    go_ret
    exact ⟨rfl, B1⟩
  by_cases h3 : 300 < c.size
  · skip
    go_enter Tryd.func9, Tryd.ntmps9
    go_wp2_with fail
    refine (long_no a _ h1).mono ?_
    rintro e w' ⟨rfl, rfl⟩
    go_wp2_with fail
    refine (long_no b _ h2).mono ?_
    rintro e w' ⟨rfl, rfl⟩
    go_wp2_with fail
    refine (long_yes c _ h3).mono ?_
    rintro e w' ⟨rfl, rfl⟩
    go_wp2_with fail
    refine (live_s _).mono ?_
    rintro e w1 ⟨rfl, hb⟩
    have B1 := below_next B0 hb
    clear hb
    go_wp2_with fail
    go_ret
    exact ⟨rfl, B1⟩
  have S := cmpN_ord
  obtain ⟨y, hy⟩ : ∃ z, cmpN b c = z := ⟨_, rfl⟩
  obtain ⟨z, hz⟩ : ∃ z, cmpN a c = z := ⟨_, rfl⟩
  have HY := Lib.hid hy
  have HZ := Lib.hid hz
  have HT := Lib.hid (S.trans a b c)
  have HE := Lib.hid (S.zero a b)
  have HAN := Lib.hid (S.anti a b)
  have HUN := Lib.hid (@cmpN_under a b)
  have hab := str_eq a b
  have hr := S.range a b
  clear S hy hz
  rcases hr with hx | hx | hx
  · have HX := Lib.hid hx
    have HNX := Lib.hid (show cmpN b a = 1 by rw [HAN.out, hx] <;> rfl)
    have hne : a ≠ b := fun e => by have := HE.out.2 e; omega
    have q1 : (a.toList == b.toList) = false := by rw [hab]; exact decide_eq_false hne
    clear hab
    by_cases hy : y ≤ 0
    · have q2 : decide (y ≤ 0) = true := decide_eq_true hy
      have hz : z ≤ 0 := by have := HT.out (by omega) (by rw [HY.out]; exact hy); rw [HZ.out] at this; exact this
      have q3 : decide (0 < z) = false := decide_eq_false (by omega)
      clear hx
      clear hne
      cases u : underB b a
      · have HU := Lib.hid u
        clear u
        go_enter Tryd.func9, Tryd.ntmps9
        go_wp2_with fail
        refine (long_no a _ h1).mono ?_
        rintro e w' ⟨rfl, rfl⟩
        go_wp2_with fail
        refine (long_no b _ h2).mono ?_
        rintro e w' ⟨rfl, rfl⟩
        go_wp2_with fail
        refine (long_no c _ h3).mono ?_
        rintro e w' ⟨rfl, rfl⟩
        go_wp2_with fail
        refine (compare_k a b (-1) _ (by omega) (by omega) HX.out).mono ?_
        rintro e w1 ⟨rfl, hb⟩
        have B1 := below_next B0 hb
        clear hb
        go_wp2_with fail
        refine (compare_k b c y _ (by omega) (by omega) HY.out).mono ?_
        rintro e w2 ⟨rfl, hb⟩
        have B2 := below_next B1 hb
        clear hb
        go_wp2_with fail
        refine (rcompare_k a b (-1) _ (by omega) (by omega) HX.out).mono ?_
        rintro e w3 ⟨rfl, hb⟩
        have B3 := below_next B2 hb
        clear hb
        go_wp2_with fail
        refine (compare_k b a 1 _ (by omega) (by omega) HNX.out).mono ?_
        rintro e w4 ⟨rfl, hb⟩
        have B4 := below_next B3 hb
        clear hb
        go_wp2_with fail
        refine (compare_k a c z _ (by omega) (by omega) HZ.out).mono ?_
        rintro e w5 ⟨rfl, hb⟩
        have B5 := below_next B4 hb
        clear hb
        go_wp2_with fail
        refine (under_k b a false _ (by omega) (by omega) HU.out).mono ?_
        rintro e w6 ⟨rfl, hb⟩
        have B6 := below_next B5 hb
        clear hb
        go_wp2_with fail
        refine (live_s _).mono ?_
        rintro e w7 ⟨rfl, hb⟩
        have B7 := below_next B6 hb
        clear hb
        go_wp2_with fail
        go_ret
        exact ⟨rfl, B7⟩
      · have HU := Lib.hid u
        clear u
        go_enter Tryd.func9, Tryd.ntmps9
        go_wp2_with fail
        refine (long_no a _ h1).mono ?_
        rintro e w' ⟨rfl, rfl⟩
        go_wp2_with fail
        refine (long_no b _ h2).mono ?_
        rintro e w' ⟨rfl, rfl⟩
        go_wp2_with fail
        refine (long_no c _ h3).mono ?_
        rintro e w' ⟨rfl, rfl⟩
        go_wp2_with fail
        refine (compare_k a b (-1) _ (by omega) (by omega) HX.out).mono ?_
        rintro e w1 ⟨rfl, hb⟩
        have B1 := below_next B0 hb
        clear hb
        go_wp2_with fail
        refine (compare_k b c y _ (by omega) (by omega) HY.out).mono ?_
        rintro e w2 ⟨rfl, hb⟩
        have B2 := below_next B1 hb
        clear hb
        go_wp2_with fail
        refine (rcompare_k a b (-1) _ (by omega) (by omega) HX.out).mono ?_
        rintro e w3 ⟨rfl, hb⟩
        have B3 := below_next B2 hb
        clear hb
        go_wp2_with fail
        refine (compare_k b a 1 _ (by omega) (by omega) HNX.out).mono ?_
        rintro e w4 ⟨rfl, hb⟩
        have B4 := below_next B3 hb
        clear hb
        go_wp2_with fail
        refine (compare_k a c z _ (by omega) (by omega) HZ.out).mono ?_
        rintro e w5 ⟨rfl, hb⟩
        have B5 := below_next B4 hb
        clear hb
        go_wp2_with fail
        refine (under_k b a true _ (by omega) (by omega) HU.out).mono ?_
        rintro e w6 ⟨rfl, hb⟩
        have B6 := below_next B5 hb
        clear hb
        go_wp2_with fail
        refine (live_s _).mono ?_
        rintro e w7 ⟨rfl, hb⟩
        have B7 := below_next B6 hb
        clear hb
        go_wp2_with fail
        go_ret
        exact ⟨rfl, B7⟩
    · have q2 : decide (y ≤ 0) = false := decide_eq_false hy
      clear hx
      clear hne
      cases u : underB b a
      · have HU := Lib.hid u
        clear u
        go_enter Tryd.func9, Tryd.ntmps9
        go_wp2_with fail
        refine (long_no a _ h1).mono ?_
        rintro e w' ⟨rfl, rfl⟩
        go_wp2_with fail
        refine (long_no b _ h2).mono ?_
        rintro e w' ⟨rfl, rfl⟩
        go_wp2_with fail
        refine (long_no c _ h3).mono ?_
        rintro e w' ⟨rfl, rfl⟩
        go_wp2_with fail
        refine (compare_k a b (-1) _ (by omega) (by omega) HX.out).mono ?_
        rintro e w1 ⟨rfl, hb⟩
        have B1 := below_next B0 hb
        clear hb
        go_wp2_with fail
        refine (compare_k b c y _ (by omega) (by omega) HY.out).mono ?_
        rintro e w2 ⟨rfl, hb⟩
        have B2 := below_next B1 hb
        clear hb
        go_wp2_with fail
        refine (rcompare_k a b (-1) _ (by omega) (by omega) HX.out).mono ?_
        rintro e w3 ⟨rfl, hb⟩
        have B3 := below_next B2 hb
        clear hb
        go_wp2_with fail
        refine (compare_k b a 1 _ (by omega) (by omega) HNX.out).mono ?_
        rintro e w4 ⟨rfl, hb⟩
        have B4 := below_next B3 hb
        clear hb
        go_wp2_with fail
        refine (under_k b a false _ (by omega) (by omega) HU.out).mono ?_
        rintro e w5 ⟨rfl, hb⟩
        have B5 := below_next B4 hb
        clear hb
        go_wp2_with fail
        refine (live_s _).mono ?_
        rintro e w6 ⟨rfl, hb⟩
        have B6 := below_next B5 hb
        clear hb
        go_wp2_with fail
        go_ret
        exact ⟨rfl, B6⟩
      · have HU := Lib.hid u
        clear u
        go_enter Tryd.func9, Tryd.ntmps9
        go_wp2_with fail
        refine (long_no a _ h1).mono ?_
        rintro e w' ⟨rfl, rfl⟩
        go_wp2_with fail
        refine (long_no b _ h2).mono ?_
        rintro e w' ⟨rfl, rfl⟩
        go_wp2_with fail
        refine (long_no c _ h3).mono ?_
        rintro e w' ⟨rfl, rfl⟩
        go_wp2_with fail
        refine (compare_k a b (-1) _ (by omega) (by omega) HX.out).mono ?_
        rintro e w1 ⟨rfl, hb⟩
        have B1 := below_next B0 hb
        clear hb
        go_wp2_with fail
        refine (compare_k b c y _ (by omega) (by omega) HY.out).mono ?_
        rintro e w2 ⟨rfl, hb⟩
        have B2 := below_next B1 hb
        clear hb
        go_wp2_with fail
        refine (rcompare_k a b (-1) _ (by omega) (by omega) HX.out).mono ?_
        rintro e w3 ⟨rfl, hb⟩
        have B3 := below_next B2 hb
        clear hb
        go_wp2_with fail
        refine (compare_k b a 1 _ (by omega) (by omega) HNX.out).mono ?_
        rintro e w4 ⟨rfl, hb⟩
        have B4 := below_next B3 hb
        clear hb
        go_wp2_with fail
        refine (under_k b a true _ (by omega) (by omega) HU.out).mono ?_
        rintro e w5 ⟨rfl, hb⟩
        have B5 := below_next B4 hb
        clear hb
        go_wp2_with fail
        refine (live_s _).mono ?_
        rintro e w6 ⟨rfl, hb⟩
        have B6 := below_next B5 hb
        clear hb
        go_wp2_with fail
        go_ret
        exact ⟨rfl, B6⟩
  · have HX := Lib.hid hx
    have HNX := Lib.hid (show cmpN b a = 0 by rw [HAN.out, hx] <;> rfl)
    have q1 : (a.toList == b.toList) = true := by rw [hab]; exact decide_eq_true (HE.out.1 hx)
    clear hab
    by_cases hy : y ≤ 0
    · have q2 : decide (y ≤ 0) = true := decide_eq_true hy
      have hz : z ≤ 0 := by have := HT.out (by omega) (by rw [HY.out]; exact hy); rw [HZ.out] at this; exact this
      have q3 : decide (0 < z) = false := decide_eq_false (by omega)
      clear hx
      go_enter Tryd.func9, Tryd.ntmps9
      go_wp2_with fail
      refine (long_no a _ h1).mono ?_
      rintro e w' ⟨rfl, rfl⟩
      go_wp2_with fail
      refine (long_no b _ h2).mono ?_
      rintro e w' ⟨rfl, rfl⟩
      go_wp2_with fail
      refine (long_no c _ h3).mono ?_
      rintro e w' ⟨rfl, rfl⟩
      go_wp2_with fail
      refine (compare_k a b 0 _ (by omega) (by omega) HX.out).mono ?_
      rintro e w1 ⟨rfl, hb⟩
      have B1 := below_next B0 hb
      clear hb
      go_wp2_with fail
      refine (compare_k b c y _ (by omega) (by omega) HY.out).mono ?_
      rintro e w2 ⟨rfl, hb⟩
      have B2 := below_next B1 hb
      clear hb
      go_wp2_with fail
      refine (rcompare_k a b 0 _ (by omega) (by omega) HX.out).mono ?_
      rintro e w3 ⟨rfl, hb⟩
      have B3 := below_next B2 hb
      clear hb
      go_wp2_with fail
      refine (compare_k b a 0 _ (by omega) (by omega) HNX.out).mono ?_
      rintro e w4 ⟨rfl, hb⟩
      have B4 := below_next B3 hb
      clear hb
      go_wp2_with fail
      refine (compare_k a c z _ (by omega) (by omega) HZ.out).mono ?_
      rintro e w5 ⟨rfl, hb⟩
      have B5 := below_next B4 hb
      clear hb
      go_wp2_with fail
      refine (live_s _).mono ?_
      rintro e w6 ⟨rfl, hb⟩
      have B6 := below_next B5 hb
      clear hb
      go_wp2_with fail
      go_ret
      exact ⟨rfl, B6⟩
    · have q2 : decide (y ≤ 0) = false := decide_eq_false hy
      clear hx
      go_enter Tryd.func9, Tryd.ntmps9
      go_wp2_with fail
      refine (long_no a _ h1).mono ?_
      rintro e w' ⟨rfl, rfl⟩
      go_wp2_with fail
      refine (long_no b _ h2).mono ?_
      rintro e w' ⟨rfl, rfl⟩
      go_wp2_with fail
      refine (long_no c _ h3).mono ?_
      rintro e w' ⟨rfl, rfl⟩
      go_wp2_with fail
      refine (compare_k a b 0 _ (by omega) (by omega) HX.out).mono ?_
      rintro e w1 ⟨rfl, hb⟩
      have B1 := below_next B0 hb
      clear hb
      go_wp2_with fail
      refine (compare_k b c y _ (by omega) (by omega) HY.out).mono ?_
      rintro e w2 ⟨rfl, hb⟩
      have B2 := below_next B1 hb
      clear hb
      go_wp2_with fail
      refine (rcompare_k a b 0 _ (by omega) (by omega) HX.out).mono ?_
      rintro e w3 ⟨rfl, hb⟩
      have B3 := below_next B2 hb
      clear hb
      go_wp2_with fail
      refine (compare_k b a 0 _ (by omega) (by omega) HNX.out).mono ?_
      rintro e w4 ⟨rfl, hb⟩
      have B4 := below_next B3 hb
      clear hb
      go_wp2_with fail
      refine (live_s _).mono ?_
      rintro e w5 ⟨rfl, hb⟩
      have B5 := below_next B4 hb
      clear hb
      go_wp2_with fail
      go_ret
      exact ⟨rfl, B5⟩
  · have HX := Lib.hid hx
    have HNX := Lib.hid (show cmpN b a = (-1) by rw [HAN.out, hx] <;> rfl)
    have hne : a ≠ b := fun e => by have := HE.out.2 e; omega
    have q1 : (a.toList == b.toList) = false := by rw [hab]; exact decide_eq_false hne
    clear hab
    by_cases hy : y ≤ 0
    · have q2 : decide (y ≤ 0) = true := decide_eq_true hy
      clear hx
      have HU := Lib.hid (show underB b a = false by rw [Bool.eq_false_iff]; intro e; have := HUN.out hne e; rw [HX.out] at this; cases this)
      clear hne
      go_enter Tryd.func9, Tryd.ntmps9
      go_wp2_with fail
      refine (long_no a _ h1).mono ?_
      rintro e w' ⟨rfl, rfl⟩
      go_wp2_with fail
      refine (long_no b _ h2).mono ?_
      rintro e w' ⟨rfl, rfl⟩
      go_wp2_with fail
      refine (long_no c _ h3).mono ?_
      rintro e w' ⟨rfl, rfl⟩
      go_wp2_with fail
      refine (compare_k a b 1 _ (by omega) (by omega) HX.out).mono ?_
      rintro e w1 ⟨rfl, hb⟩
      have B1 := below_next B0 hb
      clear hb
      go_wp2_with fail
      refine (compare_k b c y _ (by omega) (by omega) HY.out).mono ?_
      rintro e w2 ⟨rfl, hb⟩
      have B2 := below_next B1 hb
      clear hb
      go_wp2_with fail
      refine (rcompare_k a b 1 _ (by omega) (by omega) HX.out).mono ?_
      rintro e w3 ⟨rfl, hb⟩
      have B3 := below_next B2 hb
      clear hb
      go_wp2_with fail
      refine (compare_k b a (-1) _ (by omega) (by omega) HNX.out).mono ?_
      rintro e w4 ⟨rfl, hb⟩
      have B4 := below_next B3 hb
      clear hb
      go_wp2_with fail
      refine (under_k b a false _ (by omega) (by omega) HU.out).mono ?_
      rintro e w5 ⟨rfl, hb⟩
      have B5 := below_next B4 hb
      clear hb
      go_wp2_with fail
      refine (live_s _).mono ?_
      rintro e w6 ⟨rfl, hb⟩
      have B6 := below_next B5 hb
      clear hb
      go_wp2_with fail
      go_ret
      exact ⟨rfl, B6⟩
    · have q2 : decide (y ≤ 0) = false := decide_eq_false hy
      clear hx
      have HU := Lib.hid (show underB b a = false by rw [Bool.eq_false_iff]; intro e; have := HUN.out hne e; rw [HX.out] at this; cases this)
      clear hne
      go_enter Tryd.func9, Tryd.ntmps9
      go_wp2_with fail
      refine (long_no a _ h1).mono ?_
      rintro e w' ⟨rfl, rfl⟩
      go_wp2_with fail
      refine (long_no b _ h2).mono ?_
      rintro e w' ⟨rfl, rfl⟩
      go_wp2_with fail
      refine (long_no c _ h3).mono ?_
      rintro e w' ⟨rfl, rfl⟩
      go_wp2_with fail
      refine (compare_k a b 1 _ (by omega) (by omega) HX.out).mono ?_
      rintro e w1 ⟨rfl, hb⟩
      have B1 := below_next B0 hb
      clear hb
      go_wp2_with fail
      refine (compare_k b c y _ (by omega) (by omega) HY.out).mono ?_
      rintro e w2 ⟨rfl, hb⟩
      have B2 := below_next B1 hb
      clear hb
      go_wp2_with fail
      refine (rcompare_k a b 1 _ (by omega) (by omega) HX.out).mono ?_
      rintro e w3 ⟨rfl, hb⟩
      have B3 := below_next B2 hb
      clear hb
      go_wp2_with fail
      refine (compare_k b a (-1) _ (by omega) (by omega) HNX.out).mono ?_
      rintro e w4 ⟨rfl, hb⟩
      have B4 := below_next B3 hb
      clear hb
      go_wp2_with fail
      refine (under_k b a false _ (by omega) (by omega) HU.out).mono ?_
      rintro e w5 ⟨rfl, hb⟩
      have B5 := below_next B4 hb
      clear hb
      go_wp2_with fail
      refine (live_s _).mono ?_
      rintro e w6 ⟨rfl, hb⟩
      have B6 := below_next B5 hb
      clear hb
      go_wp2_with fail
      go_ret
      exact ⟨rfl, B6⟩

theorem orders_types : ∀ t ∈ [9, 9, 9], Tryd.prog.readableRec t = true ∧ t < Tryd.prog.types.size := by
  have h : ([9, 9, 9].all fun t => Tryd.prog.readableRec t && decide (t < Tryd.prog.types.size)) = true := by kernel_rfl
  intro t ht
  have := List.all_eq_true.1 h t ht
  simpa using this

set_option maxRecDepth 100000 in
theorem orders_contract (H : Type) (enc : TypeId × Value → H) (W : World) (base : Nat) (args : Array Value) (ds gs : List (DataW H)) (before : List MemPlace)
    (hval : ∀ (j : Nat) t v, Tryd.f9.params[j]? = some t → args[j]? = some v → Value.okWide Tryd.prog W .any base t v)
    (hW : DataW.Whole enc Tryd.prog Tryd.f9.params.toList Rows.nameOrdersSpec.vars false W args.toList ds gs before) (hL : laidMetH Tryd.prog Rows.nameOrdersRow.laid W) (hsh : W.ShapedOpen Tryd.prog) :
    Calls Tryd.prog 9 args W fun e W' => ∃ v, e = .returned v ∧ Rows.nameOrdersSpec.post enc Tryd.prog Tryd.f9 false true false false W args v W' := by
  have hW' := hW
  obtain ⟨p, q, hA0, hV, rfl, hfz, hnd⟩ := hW
  have hA : DataW.TrodAll enc Tryd.prog W 0 (fun _ => true) true Tryd.f9.params.toList args.toList ds p := hA0
  obtain ⟨rfl, rfl⟩ := trodVars_none hV
  simp only [List.append_nil] at hW'
  have hlt : ∀ x ∈ p, x.block < W.heap.size := fun x hx => by simpa using hW'.lt x hx
  have fin : ∀ W', Below W.heap.size W W' → DataW.TrodAll enc Tryd.prog W' 0 (fun b => decide (b < W.heap.size)) true [9, 9, 9] args.toList ds p := fun W' hb => by
    rw [Tryd.params9] at hA
    exact trodAll_below hb _ _ _ _ orders_types hA hlt
  clear hA0
  rw [Tryd.params9] at hA hval
  obtain ⟨v0, vs0, d0, ds0, p0, q0, hargs, rfl, hp0, h0, r0⟩ := trodAll_cons hA
  obtain ⟨v1, vs1, d1, ds1, p1, q1, rfl, rfl, hp1, h1, r1⟩ := trodAll_cons r0
  obtain ⟨v2, vs2, d2, ds2, p2, q2, rfl, rfl, hp2, h2, r2⟩ := trodAll_cons r1
  obtain ⟨rfl, rfl, rfl⟩ := trodAll_nil r2
  obtain rfl : args = #[v0, v1, v2] := by cases args; simp_all
  obtain ⟨a, rfl, rfl, rfl, hs0⟩ := open_string Tryd.underlying9 (hval 0 9 v0 rfl rfl) h0
  obtain ⟨b, rfl, rfl, rfl, hs1⟩ := open_string Tryd.underlying9 (hval 1 9 v1 rfl rfl) h1
  obtain ⟨c, rfl, rfl, rfl, hs2⟩ := open_string Tryd.underlying9 (hval 2 9 v2 rfl rfl) h2
  refine (orders_s a b c W  ).mono fun e W' ⟨he, hb⟩ => ?_
  subst he
  exact ⟨_, rfl, _, _, _, [], p, [], hW', trodAll_mk1 (shut_bool Tryd.underlying4 _), fin W' hb, rfl, hb.frame _, fun h => by cases h⟩

set_option maxRecDepth 100000 in
theorem orders_lifted (os : Os) (started : os.Started) (H : Type) (enc : TypeId × Value → H) (F : Stop.Interp) :
    ReturnsInHanded {} Tryd.checked os 9 .any ((OpenSpec.ofChange Rows.nameOrdersSpec).preRow enc Tryd.prog Tryd.f9 Rows.nameOrdersRow.domain false Rows.nameOrdersRow.laid) (((OpenSpec.ofChange Rows.nameOrdersSpec).at F).post enc Tryd.prog Tryd.f9 false true false false) := by
  refine returnsInHanded_of_row (C := Tryd.checked) (s := OpenSpec.ofChange Rows.nameOrdersSpec) own started (by kernel_rfl) Tryd.func9
    (witness_row (enc := enc) (C := Tryd.checked) false (World.laidAll Tryd.prog os Rows.nameOrdersRow.laid) #[.string ⟨#[]⟩, .string ⟨#[]⟩, .string ⟨#[]⟩] (World.laidAll_os _ _ _)
      (World.shaped_of_ZipB (by kernel_rfl) (by kernel_rfl)) (by kernel_rfl)
      (OpenSpec.preRow_of_cond 8 (x := ([.lit (.string []), .lit (.string []), .lit (.string [])], [], [])) (by kernel_rfl) (by kernel_rfl) (fun k hk => by cases hk) (by kernel_rfl)
        (by rw [MakeChecks.laidMetH_plain _ _ _ (by kernel_rfl)]; exact laidMet_laidAll _ (by kernel_rfl) (by kernel_rfl)))) ?_
  intro W base args ds gs before hval hW _ _ _ hL hsh _
  exact orders_contract H enc W base args ds gs before hval hW hL hsh

set_option maxRecDepth 100000 in
theorem orders_said : Rows.NameOrdersSaid :=
  OpenClaim.holds_of_cond 9 Tryd.f9 rfl rfl rfl rfl rfl rfl rfl ⟨rfl, rfl, rfl, rfl, rfl⟩ rfl rfl rfl rfl rfl (by kernel_rfl) Tryd.func9 (by kernel_rfl)
    (of_decide_eq_true (by kernel_rfl)) (by unfold Func.isWrapper; first | (rw [if_pos (by decide +kernel)]; kernel_rfl) | (rw [if_neg (by decide +kernel)]; exact ⟨rfl, rfl⟩))
    (fun os started H enc _ F => by rw [OpenClaim.pre_eq_preRow]; exact orders_lifted os started H enc F)

set_option maxRecDepth 100000 in
theorem orders_plain (f : FuncId) (fn : Func) (hf : Tryd.pinned.checked.prog.funcNamed "identity/identitylaw05.NameOrders" = some f) (hfn : Tryd.pinned.checked.prog.funcs[f]? = some fn) :
    false = Tryd.pinned.checked.prog.looks [] ∧ ∀ (j : Nat) t, fn.params[j]? = some t → Tryd.pinned.checked.prog.wantsStandIn t = false := by
  obtain rfl : f = 9 := Option.some.inj ((show Tryd.prog.funcNamed "identity/identitylaw05.NameOrders" = some 9 by kernel_rfl).symm.trans hf) |>.symm
  obtain rfl : fn = Tryd.f9 := (Option.some.inj (Tryd.func9.symm.trans hfn)).symm
  refine ⟨by kernel_rfl, fun j t ht => ?_⟩
  rw [Tryd.params9] at ht
  have hm : t ∈ [9, 9, 9] := by simpa using Array.mem_of_getElem? ht
  have hall : ([9, 9, 9].all fun u => !Tryd.prog.wantsStandIn u) = true := by kernel_rfl
  exact (show Tryd.prog.wantsStandIn t = false by simpa using List.all_eq_true.1 hall t hm)

/-- THE CARD -/
theorem orders_card : Rows.NameOrdersCardSaid :=
  Claim7.holds_tied_plain_at .later [] _ _ _ _ orders_said (fun _ h => by cases h) (by kernel_rfl) (fun _ h => by cases h) nameOrders_row_tie rfl ⟨rfl, rfl⟩ (by kernel_rfl) rfl orders_plain (by kernel_rfl)
end Go.Proofs.YtdjhhofmlefaaaaDoor
