/-
  Proved: identitylaw04.ClockReturns returns true for every two ints and every string (the tied card). No condition beyond the row's own.
-/
import Derived.Test.YtnncfifpgjlpaabDoorClkLaws
import Derived.Test.YtnncfifpgjlpaabDoorClkRetA
set_option linter.unusedVariables false
set_option linter.unusedSimpArgs false
set_option linter.unnecessarySimpa false
namespace Go.Proofs.YtnncfifpgjlpaabDoor
open Go.ChangeShapes Go.WideShapes Go.ChangeAt Go.RowKit Go.PlainAid
open Go.ChangeMaps (open_string shut_string)

set_option maxRecDepth 100000 in
set_option maxHeartbeats 8000000 in
theorem returns_s (t u : Int) (s : ByteArray) (w : World) (ht : (Lit.int .i64 t).wf = true) (hu : (Lit.int .i64 u).wf = true) (ho : TabOk w) :
    Calls Tryd.prog 8 #[.int .i64 t, .int .i64 u, .string s] w fun e w' => e = .returned (.bool true) ∧ Below w.heap.size w w' := by
  have B0 := Below.refl w.heap.size w
  have O0 := ho
  obtain ⟨a, ha⟩ := fmt_ex t
  obtain ⟨b, hb⟩ := fmt_ex u
  have HA := Lib.hid ha
  have HB := Lib.hid hb
  obtain ⟨a0, ha0⟩ : ∃ x, min t 1099511627776 = x := ⟨_, rfl⟩
  obtain ⟨x, hx⟩ : ∃ y, max 0 a0 = y := ⟨_, rfl⟩
  have lx : limI t = x := by rw [← hx, ← ha0]; unfold limI; omega
  obtain ⟨y, hy⟩ : ∃ y, limI u = y := ⟨_, rfl⟩
  have HPA := Lib.hid (show parseR a.data.toList = (x, 0) by rw [fmt_parse ha, lx])
  have HPB := Lib.hid (show parseR b.data.toList = (y, 0) by rw [fmt_parse hb, hy])
  have HQ := Lib.hid (fun (h : a.size = b.size) => show Op.bytesLess a.toList b.toList = decide (x < y) by rw [fmt_order ha hb h, lx, hy])
  have qx : (x != x) = false := by simp
  clear ha hb lx hy
  by_cases h1 : 40 < s.size
  · skip
    by_cases hl : a.size = b.size
    · have hl2 : ((a.size : Int) == (b.size : Int)) = true := by rw [beq_iff_eq]; omega
      have qo : Op.bytesLess a.toList b.toList = decide (x < y) := HQ.out hl
      have hsz := hl
      clear hl
      by_cases hxy : x < y
      · have qo2 : Op.bytesLess a.toList b.toList = true := by rw [qo]; exact decide_eq_true hxy
        have hd : decide (x < y) = true := decide_eq_true hxy
        clear qo hsz
        go_enter Tryd.func8, Tryd.ntmps8
        go_wp2_with fail
        refine (format_k t a _ O0.1 O0.2 HA.out).mono ?_
        rintro e w1 ⟨rfl, hb⟩
        have B1 := B0.trans (hb.mono B0.size)
        have O1 := O0.below hb
        clear hb
        go_wp2_with fail
        refine (format_k u b _ O1.1 O1.2 HB.out).mono ?_
        rintro e w2 ⟨rfl, hb⟩
        have B2 := B1.trans (hb.mono B1.size)
        have O2 := O1.below hb
        clear hb
        go_wp2_with fail
        refine (parse_k a x 0 _ O2.1 HPA.out).mono ?_
        rintro e w3 ⟨rfl, hb⟩
        have B3 := B2.trans (hb.mono B2.size)
        have O3 := O2.below hb
        clear hb
        go_wp2_with fail
        refine (parse_k b y 0 _ O3.1 HPB.out).mono ?_
        rintro e w4 ⟨rfl, hb⟩
        have B4 := B3.trans (hb.mono B3.size)
        have O4 := O3.below hb
        clear hb
        go_wp2_with fail
        refine (live_k _ O4).mono ?_
        rintro e w5 ⟨rfl, hb⟩
        have B5 := B4.trans (hb.mono B4.size)
        have O5 := O4.below hb
        clear hb
        go_wp2_with fail
        go_ret
        exact ⟨rfl, B5⟩
      · have qo2 : Op.bytesLess a.toList b.toList = false := by rw [qo]; exact decide_eq_false hxy
        have hd : decide (x < y) = false := decide_eq_false hxy
        clear qo hsz
        go_enter Tryd.func8, Tryd.ntmps8
        go_wp2_with fail
        refine (format_k t a _ O0.1 O0.2 HA.out).mono ?_
        rintro e w1 ⟨rfl, hb⟩
        have B1 := B0.trans (hb.mono B0.size)
        have O1 := O0.below hb
        clear hb
        go_wp2_with fail
        refine (format_k u b _ O1.1 O1.2 HB.out).mono ?_
        rintro e w2 ⟨rfl, hb⟩
        have B2 := B1.trans (hb.mono B1.size)
        have O2 := O1.below hb
        clear hb
        go_wp2_with fail
        refine (parse_k a x 0 _ O2.1 HPA.out).mono ?_
        rintro e w3 ⟨rfl, hb⟩
        have B3 := B2.trans (hb.mono B2.size)
        have O3 := O2.below hb
        clear hb
        go_wp2_with fail
        refine (parse_k b y 0 _ O3.1 HPB.out).mono ?_
        rintro e w4 ⟨rfl, hb⟩
        have B4 := B3.trans (hb.mono B3.size)
        have O4 := O3.below hb
        clear hb
        go_wp2_with fail
        refine (live_k _ O4).mono ?_
        rintro e w5 ⟨rfl, hb⟩
        have B5 := B4.trans (hb.mono B4.size)
        have O5 := O4.below hb
        clear hb
        go_wp2_with fail
        go_ret
        exact ⟨rfl, B5⟩
    · have hl2 : ((a.size : Int) == (b.size : Int)) = false := by rw [beq_eq_false_iff_ne]; omega
      clear hl
      go_enter Tryd.func8, Tryd.ntmps8
      go_wp2_with fail
      refine (format_k t a _ O0.1 O0.2 HA.out).mono ?_
      rintro e w1 ⟨rfl, hb⟩
      have B1 := B0.trans (hb.mono B0.size)
      have O1 := O0.below hb
      clear hb
      go_wp2_with fail
      refine (format_k u b _ O1.1 O1.2 HB.out).mono ?_
      rintro e w2 ⟨rfl, hb⟩
      have B2 := B1.trans (hb.mono B1.size)
      have O2 := O1.below hb
      clear hb
      go_wp2_with fail
      refine (parse_k a x 0 _ O2.1 HPA.out).mono ?_
      rintro e w3 ⟨rfl, hb⟩
      have B3 := B2.trans (hb.mono B2.size)
      have O3 := O2.below hb
      clear hb
      go_wp2_with fail
      refine (parse_k b y 0 _ O3.1 HPB.out).mono ?_
      rintro e w4 ⟨rfl, hb⟩
      have B4 := B3.trans (hb.mono B3.size)
      have O4 := O3.below hb
      clear hb
      go_wp2_with fail
      refine (live_k _ O4).mono ?_
      rintro e w5 ⟨rfl, hb⟩
      have B5 := B4.trans (hb.mono B4.size)
      have O5 := O4.below hb
      clear hb
      go_wp2_with fail
      go_ret
      exact ⟨rfl, B5⟩
  · obtain ⟨⟨k, e0⟩, hk⟩ : ∃ x, parseR s.data.toList = x := ⟨_, rfl⟩
    by_cases he : e0 = 0
    · subst he
      have HV := Lib.hid (parse_fmt hk).1
      have HF := Lib.hid (parse_fmt hk).2
      have HK := Lib.hid hk
      have qs : (s.toList == s.toList) = true := beq_self_eq_true _
      clear hk
      by_cases hl : a.size = b.size
      · have hl2 : ((a.size : Int) == (b.size : Int)) = true := by rw [beq_iff_eq]; omega
        have qo : Op.bytesLess a.toList b.toList = decide (x < y) := HQ.out hl
        have hsz := hl
        clear hl
        by_cases hxy : x < y
        · have qo2 : Op.bytesLess a.toList b.toList = true := by rw [qo]; exact decide_eq_true hxy
          have hd : decide (x < y) = true := decide_eq_true hxy
          clear qo hsz
          go_enter Tryd.func8, Tryd.ntmps8
          go_wp2_with fail
          refine (format_k t a _ O0.1 O0.2 HA.out).mono ?_
          rintro e w1 ⟨rfl, hb⟩
          have B1 := B0.trans (hb.mono B0.size)
          have O1 := O0.below hb
          clear hb
          go_wp2_with fail
          refine (format_k u b _ O1.1 O1.2 HB.out).mono ?_
          rintro e w2 ⟨rfl, hb⟩
          have B2 := B1.trans (hb.mono B1.size)
          have O2 := O1.below hb
          clear hb
          go_wp2_with fail
          refine (parse_k a x 0 _ O2.1 HPA.out).mono ?_
          rintro e w3 ⟨rfl, hb⟩
          have B3 := B2.trans (hb.mono B2.size)
          have O3 := O2.below hb
          clear hb
          go_wp2_with fail
          refine (parse_k b y 0 _ O3.1 HPB.out).mono ?_
          rintro e w4 ⟨rfl, hb⟩
          have B4 := B3.trans (hb.mono B3.size)
          have O4 := O3.below hb
          clear hb
          go_wp2_with fail
          refine (parse_k s k 0 _ O4.1 HK.out).mono ?_
          rintro e w5 ⟨rfl, hb⟩
          have B5 := B4.trans (hb.mono B4.size)
          have O5 := O4.below hb
          clear hb
          go_wp2_with fail
          refine (valid_k k true _ HV.out).mono ?_
          rintro e w' ⟨rfl, rfl⟩
          go_wp2_with fail
          refine (format_k k s _ O5.1 O5.2 HF.out).mono ?_
          rintro e w6 ⟨rfl, hb⟩
          have B6 := B5.trans (hb.mono B5.size)
          have O6 := O5.below hb
          clear hb
          go_wp2_with fail
          refine (live_k _ O6).mono ?_
          rintro e w7 ⟨rfl, hb⟩
          have B7 := B6.trans (hb.mono B6.size)
          have O7 := O6.below hb
          clear hb
          go_wp2_with fail
          go_ret
          exact ⟨rfl, B7⟩
        · have qo2 : Op.bytesLess a.toList b.toList = false := by rw [qo]; exact decide_eq_false hxy
          have hd : decide (x < y) = false := decide_eq_false hxy
          clear qo hsz
          go_enter Tryd.func8, Tryd.ntmps8
          go_wp2_with fail
          refine (format_k t a _ O0.1 O0.2 HA.out).mono ?_
          rintro e w1 ⟨rfl, hb⟩
          have B1 := B0.trans (hb.mono B0.size)
          have O1 := O0.below hb
          clear hb
          go_wp2_with fail
          refine (format_k u b _ O1.1 O1.2 HB.out).mono ?_
          rintro e w2 ⟨rfl, hb⟩
          have B2 := B1.trans (hb.mono B1.size)
          have O2 := O1.below hb
          clear hb
          go_wp2_with fail
          refine (parse_k a x 0 _ O2.1 HPA.out).mono ?_
          rintro e w3 ⟨rfl, hb⟩
          have B3 := B2.trans (hb.mono B2.size)
          have O3 := O2.below hb
          clear hb
          go_wp2_with fail
          refine (parse_k b y 0 _ O3.1 HPB.out).mono ?_
          rintro e w4 ⟨rfl, hb⟩
          have B4 := B3.trans (hb.mono B3.size)
          have O4 := O3.below hb
          clear hb
          go_wp2_with fail
          refine (parse_k s k 0 _ O4.1 HK.out).mono ?_
          rintro e w5 ⟨rfl, hb⟩
          have B5 := B4.trans (hb.mono B4.size)
          have O5 := O4.below hb
          clear hb
          go_wp2_with fail
          refine (valid_k k true _ HV.out).mono ?_
          rintro e w' ⟨rfl, rfl⟩
          go_wp2_with fail
          refine (format_k k s _ O5.1 O5.2 HF.out).mono ?_
          rintro e w6 ⟨rfl, hb⟩
          have B6 := B5.trans (hb.mono B5.size)
          have O6 := O5.below hb
          clear hb
          go_wp2_with fail
          refine (live_k _ O6).mono ?_
          rintro e w7 ⟨rfl, hb⟩
          have B7 := B6.trans (hb.mono B6.size)
          have O7 := O6.below hb
          clear hb
          go_wp2_with fail
          go_ret
          exact ⟨rfl, B7⟩
      · have hl2 : ((a.size : Int) == (b.size : Int)) = false := by rw [beq_eq_false_iff_ne]; omega
        clear hl
        go_enter Tryd.func8, Tryd.ntmps8
        go_wp2_with fail
        refine (format_k t a _ O0.1 O0.2 HA.out).mono ?_
        rintro e w1 ⟨rfl, hb⟩
        have B1 := B0.trans (hb.mono B0.size)
        have O1 := O0.below hb
        clear hb
        go_wp2_with fail
        refine (format_k u b _ O1.1 O1.2 HB.out).mono ?_
        rintro e w2 ⟨rfl, hb⟩
        have B2 := B1.trans (hb.mono B1.size)
        have O2 := O1.below hb
        clear hb
        go_wp2_with fail
        refine (parse_k a x 0 _ O2.1 HPA.out).mono ?_
        rintro e w3 ⟨rfl, hb⟩
        have B3 := B2.trans (hb.mono B2.size)
        have O3 := O2.below hb
        clear hb
        go_wp2_with fail
        refine (parse_k b y 0 _ O3.1 HPB.out).mono ?_
        rintro e w4 ⟨rfl, hb⟩
        have B4 := B3.trans (hb.mono B3.size)
        have O4 := O3.below hb
        clear hb
        go_wp2_with fail
        refine (parse_k s k 0 _ O4.1 HK.out).mono ?_
        rintro e w5 ⟨rfl, hb⟩
        have B5 := B4.trans (hb.mono B4.size)
        have O5 := O4.below hb
        clear hb
        go_wp2_with fail
        refine (valid_k k true _ HV.out).mono ?_
        rintro e w' ⟨rfl, rfl⟩
        go_wp2_with fail
        refine (format_k k s _ O5.1 O5.2 HF.out).mono ?_
        rintro e w6 ⟨rfl, hb⟩
        have B6 := B5.trans (hb.mono B5.size)
        have O6 := O5.below hb
        clear hb
        go_wp2_with fail
        refine (live_k _ O6).mono ?_
        rintro e w7 ⟨rfl, hb⟩
        have B7 := B6.trans (hb.mono B6.size)
        have O7 := O6.below hb
        clear hb
        go_wp2_with fail
        go_ret
        exact ⟨rfl, B7⟩
    · have hk0 := parse_err hk he
      subst hk0
      have HK := Lib.hid hk
      have qe : (e0 != 0) = true := by rw [bne_iff_ne]; exact he
      clear hk he
      by_cases hl : a.size = b.size
      · have hl2 : ((a.size : Int) == (b.size : Int)) = true := by rw [beq_iff_eq]; omega
        have qo : Op.bytesLess a.toList b.toList = decide (x < y) := HQ.out hl
        have hsz := hl
        clear hl
        by_cases hxy : x < y
        · have qo2 : Op.bytesLess a.toList b.toList = true := by rw [qo]; exact decide_eq_true hxy
          have hd : decide (x < y) = true := decide_eq_true hxy
          clear qo hsz
          go_enter Tryd.func8, Tryd.ntmps8
          go_wp2_with fail
          refine (format_k t a _ O0.1 O0.2 HA.out).mono ?_
          rintro e w1 ⟨rfl, hb⟩
          have B1 := B0.trans (hb.mono B0.size)
          have O1 := O0.below hb
          clear hb
          go_wp2_with fail
          refine (format_k u b _ O1.1 O1.2 HB.out).mono ?_
          rintro e w2 ⟨rfl, hb⟩
          have B2 := B1.trans (hb.mono B1.size)
          have O2 := O1.below hb
          clear hb
          go_wp2_with fail
          refine (parse_k a x 0 _ O2.1 HPA.out).mono ?_
          rintro e w3 ⟨rfl, hb⟩
          have B3 := B2.trans (hb.mono B2.size)
          have O3 := O2.below hb
          clear hb
          go_wp2_with fail
          refine (parse_k b y 0 _ O3.1 HPB.out).mono ?_
          rintro e w4 ⟨rfl, hb⟩
          have B4 := B3.trans (hb.mono B3.size)
          have O4 := O3.below hb
          clear hb
          go_wp2_with fail
          refine (parse_k s 0 e0 _ O4.1 HK.out).mono ?_
          rintro e w5 ⟨rfl, hb⟩
          have B5 := B4.trans (hb.mono B4.size)
          have O5 := O4.below hb
          clear hb
          go_wp2_with fail
          refine (live_k _ O5).mono ?_
          rintro e w6 ⟨rfl, hb⟩
          have B6 := B5.trans (hb.mono B5.size)
          have O6 := O5.below hb
          clear hb
          go_wp2_with fail
          go_ret
          exact ⟨rfl, B6⟩
        · have qo2 : Op.bytesLess a.toList b.toList = false := by rw [qo]; exact decide_eq_false hxy
          have hd : decide (x < y) = false := decide_eq_false hxy
          clear qo hsz
          go_enter Tryd.func8, Tryd.ntmps8
          go_wp2_with fail
          refine (format_k t a _ O0.1 O0.2 HA.out).mono ?_
          rintro e w1 ⟨rfl, hb⟩
          have B1 := B0.trans (hb.mono B0.size)
          have O1 := O0.below hb
          clear hb
          go_wp2_with fail
          refine (format_k u b _ O1.1 O1.2 HB.out).mono ?_
          rintro e w2 ⟨rfl, hb⟩
          have B2 := B1.trans (hb.mono B1.size)
          have O2 := O1.below hb
          clear hb
          go_wp2_with fail
          refine (parse_k a x 0 _ O2.1 HPA.out).mono ?_
          rintro e w3 ⟨rfl, hb⟩
          have B3 := B2.trans (hb.mono B2.size)
          have O3 := O2.below hb
          clear hb
          go_wp2_with fail
          refine (parse_k b y 0 _ O3.1 HPB.out).mono ?_
          rintro e w4 ⟨rfl, hb⟩
          have B4 := B3.trans (hb.mono B3.size)
          have O4 := O3.below hb
          clear hb
          go_wp2_with fail
          refine (parse_k s 0 e0 _ O4.1 HK.out).mono ?_
          rintro e w5 ⟨rfl, hb⟩
          have B5 := B4.trans (hb.mono B4.size)
          have O5 := O4.below hb
          clear hb
          go_wp2_with fail
          refine (live_k _ O5).mono ?_
          rintro e w6 ⟨rfl, hb⟩
          have B6 := B5.trans (hb.mono B5.size)
          have O6 := O5.below hb
          clear hb
          go_wp2_with fail
          go_ret
          exact ⟨rfl, B6⟩
      · have hl2 : ((a.size : Int) == (b.size : Int)) = false := by rw [beq_eq_false_iff_ne]; omega
        clear hl
        go_enter Tryd.func8, Tryd.ntmps8
        go_wp2_with fail
        refine (format_k t a _ O0.1 O0.2 HA.out).mono ?_
        rintro e w1 ⟨rfl, hb⟩
        have B1 := B0.trans (hb.mono B0.size)
        have O1 := O0.below hb
        clear hb
        go_wp2_with fail
        refine (format_k u b _ O1.1 O1.2 HB.out).mono ?_
        rintro e w2 ⟨rfl, hb⟩
        have B2 := B1.trans (hb.mono B1.size)
        have O2 := O1.below hb
        clear hb
        go_wp2_with fail
        refine (parse_k a x 0 _ O2.1 HPA.out).mono ?_
        rintro e w3 ⟨rfl, hb⟩
        have B3 := B2.trans (hb.mono B2.size)
        have O3 := O2.below hb
        clear hb
        go_wp2_with fail
        refine (parse_k b y 0 _ O3.1 HPB.out).mono ?_
        rintro e w4 ⟨rfl, hb⟩
        have B4 := B3.trans (hb.mono B3.size)
        have O4 := O3.below hb
        clear hb
        go_wp2_with fail
        refine (parse_k s 0 e0 _ O4.1 HK.out).mono ?_
        rintro e w5 ⟨rfl, hb⟩
        have B5 := B4.trans (hb.mono B4.size)
        have O5 := O4.below hb
        clear hb
        go_wp2_with fail
        refine (live_k _ O5).mono ?_
        rintro e w6 ⟨rfl, hb⟩
        have B6 := B5.trans (hb.mono B5.size)
        have O6 := O5.below hb
        clear hb
        go_wp2_with fail
        go_ret
        exact ⟨rfl, B6⟩

theorem returns_types : ∀ t ∈ [3, 3, 9], Tryd.prog.readableRec t = true ∧ t < Tryd.prog.types.size := by
  have h : ([3, 3, 9].all fun t => Tryd.prog.readableRec t && decide (t < Tryd.prog.types.size)) = true := by kernel_rfl
  intro t ht
  have := List.all_eq_true.1 h t ht
  simpa using this

set_option maxRecDepth 100000 in
theorem returns_contract (H : Type) (enc : TypeId × Value → H) (W : World) (base : Nat) (args : Array Value) (ds gs : List (DataW H)) (before : List MemPlace)
    (hval : ∀ (j : Nat) t v, Tryd.f8.params[j]? = some t → args[j]? = some v → Value.okWide Tryd.prog W .any base t v)
    (hW : DataW.Whole enc Tryd.prog Tryd.f8.params.toList Rows.clockReturnsSpec.vars false W args.toList ds gs before) (hL : laidMetH Tryd.prog Rows.clockReturnsRow.laid W) (hsh : W.ShapedOpen Tryd.prog) :
    Calls Tryd.prog 8 args W fun e W' => ∃ v, e = .returned v ∧ Rows.clockReturnsSpec.post enc Tryd.prog Tryd.f8 false true false false W args v W' := by
  have hW' := hW
  obtain ⟨p, q, hA0, hV, rfl, hfz, hnd⟩ := hW
  have hA : DataW.TrodAll enc Tryd.prog W 0 (fun _ => true) true Tryd.f8.params.toList args.toList ds p := hA0
  obtain ⟨rfl, rfl⟩ := trodVars_none hV
  simp only [List.append_nil] at hW'
  have hlt : ∀ x ∈ p, x.block < W.heap.size := fun x hx => by simpa using hW'.lt x hx
  have fin : ∀ W', Below W.heap.size W W' → DataW.TrodAll enc Tryd.prog W' 0 (fun b => decide (b < W.heap.size)) true [3, 3, 9] args.toList ds p := fun W' hb => by
    rw [Tryd.params8] at hA
    exact trodAll_below hb _ _ _ _ returns_types hA hlt
  clear hA0
  rw [Tryd.params8] at hA hval
  obtain ⟨v0, vs0, d0, ds0, p0, q0, hargs, rfl, hp0, h0, r0⟩ := trodAll_cons hA
  obtain ⟨v1, vs1, d1, ds1, p1, q1, rfl, rfl, hp1, h1, r1⟩ := trodAll_cons r0
  obtain ⟨v2, vs2, d2, ds2, p2, q2, rfl, rfl, hp2, h2, r2⟩ := trodAll_cons r1
  obtain ⟨rfl, rfl, rfl⟩ := trodAll_nil r2
  obtain rfl : args = #[v0, v1, v2] := by cases args; simp_all
  obtain ⟨t, rfl, rfl, rfl, hs0⟩ := open_int Tryd.underlying3 (hval 0 3 v0 rfl rfl) h0
  obtain ⟨u, rfl, rfl, rfl, hs1⟩ := open_int Tryd.underlying3 (hval 1 3 v1 rfl rfl) h1
  obtain ⟨s, rfl, rfl, rfl, hs2⟩ := open_string Tryd.underlying9 (hval 2 9 v2 rfl rfl) h2
  refine (returns_s t u s W hs0 hs1 (tab_ok hL)).mono fun e W' ⟨he, hb⟩ => ?_
  subst he
  exact ⟨_, rfl, _, _, _, [], p, [], hW', trodAll_mk1 (shut_bool Tryd.underlying4 _), fin W' hb, rfl, hb.frame _, fun h => by cases h⟩

set_option maxRecDepth 100000 in
theorem returns_lifted (os : Os) (started : os.Started) (H : Type) (enc : TypeId × Value → H) (F : Stop.Interp) :
    ReturnsInHanded {} Tryd.checked os 8 .any ((OpenSpec.ofChange Rows.clockReturnsSpec).preRow enc Tryd.prog Tryd.f8 Rows.clockReturnsRow.domain false Rows.clockReturnsRow.laid) (((OpenSpec.ofChange Rows.clockReturnsSpec).at F).post enc Tryd.prog Tryd.f8 false true false false) := by
  refine returnsInHanded_of_row (C := Tryd.checked) (s := OpenSpec.ofChange Rows.clockReturnsSpec) own started (by kernel_rfl) Tryd.func8
    (witness_row (enc := enc) (C := Tryd.checked) false (World.laidAll Tryd.prog os Rows.clockReturnsRow.laid) #[.int .i64 0, .int .i64 0, .string ⟨#[]⟩] (World.laidAll_os _ _ _)
      (World.shaped_of_ZipB (by kernel_rfl) (by kernel_rfl)) (by kernel_rfl)
      (OpenSpec.preRow_of_cond 8 (x := ([.lit (.int .i64 0), .lit (.int .i64 0), .lit (.string [])], [], [])) (by kernel_rfl) (by kernel_rfl) (fun k hk => by cases hk) (by kernel_rfl)
        (by rw [MakeChecks.laidMetH_plain _ _ _ (by kernel_rfl)]; exact laidMet_laidAll _ (by kernel_rfl) (by kernel_rfl)))) ?_
  intro W base args ds gs before hval hW _ _ _ hL hsh _
  exact returns_contract H enc W base args ds gs before hval hW hL hsh

set_option maxRecDepth 100000 in
theorem returns_said : Rows.ClockReturnsSaid :=
  OpenClaim.holds_of_cond 8 Tryd.f8 rfl rfl rfl rfl rfl rfl rfl ⟨rfl, rfl, rfl, rfl, rfl⟩ rfl rfl rfl rfl rfl (by kernel_rfl) Tryd.func8 (by kernel_rfl)
    (of_decide_eq_true (by kernel_rfl)) (by unfold Func.isWrapper; first | (rw [if_pos (by decide +kernel)]; kernel_rfl) | (rw [if_neg (by decide +kernel)]; exact ⟨rfl, rfl⟩))
    (fun os started H enc _ F => by rw [OpenClaim.pre_eq_preRow]; exact returns_lifted os started H enc F)

set_option maxRecDepth 100000 in
theorem returns_plain (f : FuncId) (fn : Func) (hf : Tryd.pinned.checked.prog.funcNamed "identity/identitylaw04.ClockReturns" = some f) (hfn : Tryd.pinned.checked.prog.funcs[f]? = some fn) :
    false = Tryd.pinned.checked.prog.looks [] ∧ ∀ (j : Nat) t, fn.params[j]? = some t → Tryd.pinned.checked.prog.wantsStandIn t = false := by
  obtain rfl : f = 8 := Option.some.inj ((show Tryd.prog.funcNamed "identity/identitylaw04.ClockReturns" = some 8 by kernel_rfl).symm.trans hf) |>.symm
  obtain rfl : fn = Tryd.f8 := (Option.some.inj (Tryd.func8.symm.trans hfn)).symm
  refine ⟨by kernel_rfl, fun j t ht => ?_⟩
  rw [Tryd.params8] at ht
  have hm : t ∈ [3, 3, 9] := by simpa using Array.mem_of_getElem? ht
  have hall : ([3, 3, 9].all fun u => !Tryd.prog.wantsStandIn u) = true := by kernel_rfl
  exact (show Tryd.prog.wantsStandIn t = false by simpa using List.all_eq_true.1 hall t hm)

/-- THE CARD -/
theorem returns_card : Rows.ClockReturnsCardSaid :=
  Claim7.holds_tied_plain_at .later [] _ _ _ _ returns_said (fun _ h => by cases h) (by kernel_rfl) (fun _ h => by cases h) clockReturns_row_tie rfl ⟨rfl, rfl⟩ (by kernel_rfl) rfl returns_plain (by kernel_rfl)
end Go.Proofs.YtnncfifpgjlpaabDoor
