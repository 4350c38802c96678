/-
  Texts of the schema layer and of those beneath it, joined: SchNvR. Conditions stand at each contract.
-/
import Derived.Test.YtclfjdnemafmeaaGreatDoorM26

section
/-
  Contracts of the specification's form, Normal and Compare. Condition: values of at most 1000000 bytes.
-/
set_option maxRecDepth 100000
set_option linter.unusedVariables false
set_option linter.unusedSimpArgs false
set_option linter.unnecessarySimpa false
namespace Go.Proofs.YtclfjdnemafmeaaGreatDoor
open Go.RowKit Go.PlainAid

theorem numS_getD (s : ByteArray) : -9223372036854775808 ≤ (numS s).getD 0 ∧ (numS s).getD 0 ≤ 9223372036854775807 := by
  cases h : numS s with
  | none => exact ⟨by decide, by decide⟩
  | some n => exact numS_range h
set_option maxHeartbeats 8000000 in
theorem rform_s (x : Int) (s : ByteArray) (w : World) (hs : s.size ≤ 1000000) :
    Calls Tryz.prog 56 #[.int .i64 x, .string s] w fun e w' => ∃ f : ByteArray, e = .returned (.tuple #[.string f, .bool (formS x s).isSome]) ∧ (∀ g, formS x s = some g → f = g) ∧ Below w.heap.size w w' := by
  by_cases h1 : x = 1
  · subst h1
    have HE := Lib.hid (show formS 1 s = some (foldS s) from rfl)
    go_enter Tryz.func56, Tryz.ntmps56
    go_wp2_with fail
    refine (rFold_s s _ (by omega)).mono ?_
    rintro e w1 ⟨rfl, hb⟩
    have HB := Lib.hid hb; clear hb
    go_wp2_with fail
    go_ret2
    exact ⟨_, by rw [HE.out]; rfl, (fun g hg => by rw [HE.out] at hg; exact Option.some.inj hg), HB.out⟩
  · by_cases h2 : x = 2
    · subst h2
      have HE := Lib.hid (show formS 2 s = some s from rfl)
      go_enter Tryz.func56, Tryz.ntmps56
      go_wp2_with fail
      go_ret2
      exact ⟨_, by rw [HE.out]; rfl, (fun g hg => by rw [HE.out] at hg; exact Option.some.inj hg), Below.refl _ _⟩
    · by_cases h3 : x = 3
      · subst h3
        have HE := Lib.hid (show formS 3 s = (numS s).map fun n => ofL (Lib.itoa n) from rfl)
        obtain ⟨hn1, hn2⟩ := numS_getD s
        have HI := Lib.hid (fun W => rint_s ((numS s).getD 0) W hn1 hn2)
        obtain ⟨n, hn⟩ : ∃ x, (numS s).getD 0 = x := ⟨_, rfl⟩
        obtain ⟨ok, hok⟩ : ∃ x, (numS s).isSome = x := ⟨_, rfl⟩
        have HN := Lib.hid (rnumber_s s w hs)
        rw [hn, hok] at HN
        rw [hn] at HI
        have HQ := Lib.hid (And.intro hn hok)
        clear hn hok hn1 hn2
        go_enter Tryz.func56, Tryz.ntmps56
        go_wp2_with fail
        refine HN.out.mono ?_
        rintro e w1 ⟨rfl, rfl⟩
        go_wp2_with fail
        refine (HI.out _).mono ?_
        rintro e w2 ⟨rfl, hb⟩
        have HB := Lib.hid hb; clear hb
        go_wp2_with fail
        go_ret2
        refine ⟨_, by rw [HE.out, Option.isSome_map, HQ.out.2]; rfl, (fun g hg => ?_), HB.out⟩
        rw [HE.out] at hg
        rw [← HQ.out.1]
        cases e : numS s with
        | none => rw [e] at hg; cases hg
        | some m => rw [e] at hg; exact Option.some.inj hg
      · by_cases h4 : x = 4
        · subst h4
          have HE := Lib.hid (show formS 4 s = if Nam.cleanE s = 0 then some (Nam.cleanV s) else none from rfl)
          go_enter Tryz.func56, Tryz.ntmps56
          go_wp2_with fail
          refine (Nam.rclean0_s s _ hs).mono ?_
          rintro e w1 ⟨rfl, hb⟩
          have HB := Lib.hid hb; clear hb
          by_cases hc : Nam.cleanE s = 0
          · have HE2 := Lib.hid (show formS 4 s = some (Nam.cleanV s) from HE.out.trans (if_pos hc))
            rw [hc]
            go_wp2_with fail
            go_ret2
            exact ⟨_, by rw [HE2.out]; rfl, (fun g hg => by rw [HE2.out] at hg; exact Option.some.inj hg), HB.out⟩
          · have HE2 := Lib.hid (show formS 4 s = none from HE.out.trans (if_neg hc))
            obtain ⟨ec, hec⟩ : ∃ e, Nam.cleanE s = e := ⟨_, rfl⟩
            rw [hec] at hc ⊢
            clear hec
            have hq : (ec == 0) = false := beq_false_of_ne hc
            go_wp2_with fail
            go_ret2
            exact ⟨_, by rw [HE2.out]; rfl, (fun g hg => by rw [HE2.out] at hg; cases hg), HB.out⟩
        · have HE := Lib.hid (show formS x s = truthS s by unfold formS; rw [if_neg h1, if_neg h2, if_neg h3, if_neg h4])
          have q1 : (x == 1) = false := beq_false_of_ne h1
          have q2 : (x == 2) = false := beq_false_of_ne h2
          have q3 : (x == 3) = false := beq_false_of_ne h3
          have q4 : (x == 4) = false := beq_false_of_ne h4
          obtain ⟨lw, hlw⟩ : ∃ x, lowS s = x := ⟨_, rfl⟩
          have HL := Lib.hid (fun W => rLower_s s W (by omega))
          rw [hlw] at HL
          have HE2 := Lib.hid (show formS x s = if lw = trueS then some ⟨#[84, 82, 85, 69]⟩ else if lw = falseS then some ⟨#[70, 65, 76, 83, 69]⟩ else none by rw [HE.out]; unfold truthS; rw [hlw])
          clear HE hlw
          go_enter Tryz.func56, Tryz.ntmps56
          go_wp2_with fail
          refine (HL.out _).mono ?_
          rintro e w1 ⟨rfl, hb⟩
          have HB := Lib.hid hb; clear hb
          by_cases ht : lw = trueS
          · have HE3 := Lib.hid (show formS x s = some ⟨#[84, 82, 85, 69]⟩ by rw [HE2.out, if_pos ht])
            have t1 : (lw.toList == [116, 114, 117, 101]) = true := by rw [ht, Lib.toList_data]; rfl
            clear ht
            go_wp2_with fail
            go_ret2
            exact ⟨_, by rw [HE3.out]; rfl, (fun g hg => by rw [HE3.out] at hg; exact Option.some.inj hg), HB.out⟩
          · have t1 : (lw.toList == [116, 114, 117, 101]) = false := by
              rw [Lib.toList_data]
              exact beq_false_of_ne (fun k => ht (by rw [← Lib.mk_data lw, k]; rfl))
            go_wp2_with fail
            refine (HL.out _).mono ?_
            rintro e w2 ⟨rfl, hb⟩
            have HB2 := Lib.hid (HB.out.trans (hb.mono HB.out.size)); clear hb
            by_cases hf : lw = falseS
            · have HE3 := Lib.hid (show formS x s = some ⟨#[70, 65, 76, 83, 69]⟩ by rw [HE2.out, if_neg ht, if_pos hf])
              have t2 : (lw.toList == [102, 97, 108, 115, 101]) = true := by rw [hf, Lib.toList_data]; rfl
              clear hf ht
              go_wp2_with fail
              go_ret2
              exact ⟨_, by rw [HE3.out]; rfl, (fun g hg => by rw [HE3.out] at hg; exact Option.some.inj hg), HB2.out⟩
            · have HE3 := Lib.hid (show formS x s = none by rw [HE2.out, if_neg ht, if_neg hf])
              have t2 : (lw.toList == [102, 97, 108, 115, 101]) = false := by
                rw [Lib.toList_data]
                exact beq_false_of_ne (fun k => hf (by rw [← Lib.mk_data lw, k]; rfl))
              go_wp2_with fail
              go_ret2
              exact ⟨_, by rw [HE3.out]; rfl, (fun g hg => by rw [HE3.out] at hg; cases hg), HB2.out⟩
set_option maxHeartbeats 8000000 in
theorem rnormal7_s (v : Value) (ts : List Ty) (cs : List Cl) (n s : ByteArray) (w : World) (h : SchV w v ts cs) (hn : n.size ≤ 1000000000) (hs : s.size ≤ 1000000) :
    Calls Tryz.prog 25 #[v, .string n, .string s] w fun e w' => e = .returned (.tuple #[.string (nrmV (soundT ts cs) n s), .int .i64 (nrmE (soundT ts cs) n s)]) ∧ Below w.heap.size w w' := by
  have h' := h
  obtain ⟨ao, k, cap, bo, m, dap, rfl, _⟩ := h'
  have hb0 : Below w.heap.size w (w.alloc (.cells #[.slice ao k cap, .slice bo m dap] 25)) := (Below.refl _ _).alloc (Nat.le_refl _) _
  have HB0 := Lib.hid hb0
  have HC := Lib.hid (type7_s _ ts cs n _ (h.below hb0) hn)
  clear h hb0
  go_enter Tryz.func25, Tryz.ntmps25
  go_wp2_with fail
  refine HC.out.mono ?_
  rintro e w1 ⟨rfl, hb⟩
  have hsz1 : w.heap.size < w1.heap.size := by have := hb.size; simp at this; omega
  have HB1 := Lib.hid (HB0.out.trans (hb.mono (by simp)))
  clear hb HC HB0
  unfold tyV
  cases ht : tyOf (soundT ts cs) n with
  | none =>
    have HE := Lib.hid (show nrmV (soundT ts cs) n s = ⟨#[]⟩ ∧ nrmE (soundT ts cs) n s = 6 by unfold nrmV nrmE; rw [ht]; exact ⟨rfl, rfl⟩)
    clear ht
    dsimp only [Option.getD, Option.isSome, zeroTy]
    go_wp2_with fail
    go_ret2
    exact ⟨by rw [HE.out.1, HE.out.2]; rfl, HB1.out.alloc (by omega) _⟩
  | some t =>
    have HE := Lib.hid (show nrmV (soundT ts cs) n s = (normS t.syn s).getD ⟨#[]⟩ ∧ nrmE (soundT ts cs) n s = normE t.syn s by unfold nrmV nrmE; rw [ht]; exact ⟨rfl, rfl⟩)
    clear ht
    dsimp only [Option.getD, Option.isSome]
    have hal := (Below.refl w1.heap.size w1).alloc (Nat.le_refl _) (.cells #[.string t.name, .int .i64 t.syn, .bool t.single] 32)
    have k0 : (w1.alloc (.cells #[.string t.name, .int .i64 t.syn, .bool t.single] 32)).cell? ⟨w1.heap.size, 1, none⟩ = some (.int .i64 t.syn) := by go_simp
    have HAL := Lib.hid (HB1.out.trans (hal.mono (Nat.le_of_lt hsz1)))
    have HN := Lib.hid (show normS t.syn s = (formS t.syn s).bind fun f => if cleanB s = true ∧ cleanB f = true then some f else none from rfl)
    have HFm := Lib.hid (fun f (h : formS t.syn s = some f) => formS_small hs h)
    obtain ⟨c1, hc1⟩ : ∃ b, cleanB s = b := ⟨_, rfl⟩
    have HC1 := Lib.hid hc1
    clear hal hc1
    go_wp2_with fail
    refine (rClean_s s _ (by omega)).mono ?_
    rintro e w2 ⟨rfl, rfl⟩
    rw [HC1.out]
    cases c1
    · have HE2 := Lib.hid (show normS t.syn s = none by rw [HN.out, HC1.out]; cases formS t.syn s <;> simp)
      go_wp2_with fail
      go_ret2
      exact ⟨by rw [HE.out.1, HE.out.2]; unfold normE; rw [HE2.out]; rfl, HAL.out⟩
    · go_wp2_with fail
      refine (rform_s t.syn s _ hs).mono ?_
      rintro e w2 ⟨f, rfl, hg, hb⟩
      have HB2 := Lib.hid (HAL.out.trans (hb.mono HAL.out.size)); clear hb k0
      cases hq : formS t.syn s with
      | none =>
        have HE2 := Lib.hid (show normS t.syn s = none by rw [HN.out, hq]; rfl)
        clear hg hq
        go_wp2_with fail
        go_ret2
        exact ⟨by rw [HE.out.1, HE.out.2]; unfold normE; rw [HE2.out]; rfl, HB2.out⟩
      | some g =>
        obtain rfl := hg g hq
        have hfs := HFm.out f hq
        obtain ⟨c2, hc2⟩ : ∃ b, cleanB f = b := ⟨_, rfl⟩
        have HC2 := Lib.hid hc2
        have HE2 := Lib.hid (show normS t.syn s = if c2 = true then some f else none by rw [HN.out, hq]; show (if cleanB s = true ∧ cleanB f = true then some f else none) = _; rw [HC1.out, hc2]; simp)
        clear hc2 hg hq
        go_wp2_with fail
        refine (rClean_s f _ (by omega)).mono ?_
        rintro e w3 ⟨rfl, rfl⟩
        rw [HC2.out]
        cases c2
        · have HE3 := Lib.hid (show normS t.syn s = none from HE2.out.trans (by simp))
          go_wp2_with fail
          go_ret2
          exact ⟨by rw [HE.out.1, HE.out.2]; unfold normE; rw [HE3.out]; rfl, HB2.out⟩
        · have HE3 := Lib.hid (show normS t.syn s = some f from HE2.out.trans (by simp))
          go_wp2_with fail
          go_ret2
          exact ⟨by rw [HE.out.1, HE.out.2]; unfold normE; rw [HE3.out]; rfl, HB2.out⟩
/-- the order of two normal forms of numbers -/
theorem cmp_int {u v a b : ByteArray} (ha : normS 3 u = some a) (hb : normS 3 v = some b) : cmpF 3 a b = Lib.compareInt ((numS a).getD 0) ((numS b).getD 0) := by
  obtain ⟨n, rfl, n0, n1⟩ := norm_int ha
  obtain ⟨m, rfl, m0, m1⟩ := norm_int hb
  rw [numS_itoa n n0 n1, numS_itoa m m0 m1]
  unfold cmpF
  rw [if_pos rfl, show (ofL (Lib.itoa n)).data.toList = Lib.itoa n from rfl, show (ofL (Lib.itoa m)).data.toList = Lib.itoa m from rfl, readI_itoa n n0 n1, readI_itoa m m0 m1]
  rfl
set_option maxHeartbeats 8000000 in
theorem rcompare7_s (v : Value) (ts : List Ty) (cs : List Cl) (n a b : ByteArray) (w : World) (h : SchV w v ts cs) (hn : n.size ≤ 1000000000) (ha : a.size ≤ 1000000) (hb : b.size ≤ 1000000) :
    Calls Tryz.prog 27 #[v, .string n, .string a, .string b] w fun e w' => e = .returned (.tuple #[.int .i64 (cmpV (soundT ts cs) n a b), .int .i64 (cmpE (soundT ts cs) n a b)]) ∧ Below w.heap.size w w' := by
  have h' := h
  obtain ⟨ao, k, cap, bo, m, dap, rfl, _⟩ := h'
  have hb0 : Below w.heap.size w (w.alloc (.cells #[.slice ao k cap, .slice bo m dap] 25)) := (Below.refl _ _).alloc (Nat.le_refl _) _
  have HB0 := Lib.hid hb0
  have HV0 := Lib.hid (h.below hb0)
  obtain ⟨T, hT⟩ : ∃ x, soundT ts cs = x := ⟨_, rfl⟩
  obtain ⟨ea, hea⟩ : ∃ x, nrmE T n a = x := ⟨_, rfl⟩
  obtain ⟨fa, hfa⟩ : ∃ x, nrmV T n a = x := ⟨_, rfl⟩
  obtain ⟨eb, heb⟩ : ∃ x, nrmE T n b = x := ⟨_, rfl⟩
  obtain ⟨fb, hfb⟩ : ∃ x, nrmV T n b = x := ⟨_, rfl⟩
  have HC := Lib.hid (rnormal7_s _ ts cs n a _ (h.below hb0) hn ha)
  rw [hT, hea, hfa] at HC
  rw [hT]
  have HQ := Lib.hid (And.intro (And.intro hea hfa) (And.intro heb hfb))
  have HTs := Lib.hid hT
  clear h hb0 hea hfa heb hfb hT
  go_enter Tryz.func27, Tryz.ntmps27
  go_wp2_with fail
  refine HC.out.mono ?_
  rintro e w1 ⟨rfl, hb1⟩
  have c0 : w1.cell? ⟨w.heap.size, 0, none⟩ = some (.slice ao k cap) := cell_later hb1 (by go_simp)
  have c1 : w1.cell? ⟨w.heap.size, 1, none⟩ = some (.slice bo m dap) := cell_later hb1 (by go_simp)
  have HV1 := Lib.hid (HV0.out.below hb1)
  have HB1 := Lib.hid (HB0.out.trans (hb1.mono (by simp)))
  have hsz1 : w.heap.size < w1.heap.size := by have := hb1.size; simp at this; omega
  clear hb1 HC HB0 HV0
  cases ht : tyOf T n with
  | none =>
    have h6 : ea = 6 := by rw [← HQ.out.1.1]; unfold nrmE; rw [ht]
    have HE := Lib.hid (show cmpV T n a b = 0 ∧ cmpE T n a b = 6 by unfold cmpV cmpE; rw [ht]; exact ⟨rfl, rfl⟩)
    clear ht
    have d3 : (ea != 0) = true := by rw [h6]; rfl
    go_wp2_with fail
    go_ret2
    exact ⟨by rw [HE.out.1, HE.out.2]; rfl, HB1.out⟩
  | some t =>
    have HE := Lib.hid (show cmpV T n a b = (if normE t.syn a ≠ 0 ∨ normE t.syn b ≠ 0 then 0 else cmpF t.syn ((normS t.syn a).getD ⟨#[]⟩) ((normS t.syn b).getD ⟨#[]⟩)) ∧ cmpE T n a b = if normE t.syn a ≠ 0 then normE t.syn a else normE t.syn b by unfold cmpV cmpE; rw [ht]; exact ⟨rfl, rfl⟩)
    have HS := Lib.hid (show (normE t.syn a = ea ∧ (normS t.syn a).getD ⟨#[]⟩ = fa) ∧ normE t.syn b = eb ∧ (normS t.syn b).getD ⟨#[]⟩ = fb by
      have := HQ.out
      unfold nrmE nrmV at this
      rw [ht] at this
      exact this)
    have hza : fa.size ≤ 1000000 := by rw [← HS.out.1.2]; exact Nat.le_trans getD_small (by decide)
    have hzb : fb.size ≤ 1000000 := by rw [← HS.out.2.2]; exact Nat.le_trans getD_small (by decide)
    rw [HS.out.1.1, HS.out.1.2, HS.out.2.1, HS.out.2.2] at HE
    have HTy := Lib.hid ht
    clear ht
    by_cases h1 : ea = 0
    · have d3 : (ea != 0) = false := by rw [h1]; rfl
      have HC3 := Lib.hid (rnormal7_s _ ts cs n b _ HV1.out hn hb)
      rw [HTs.out, HQ.out.2.1, HQ.out.2.2] at HC3
      go_wp2_with fail
      refine HC3.out.mono ?_
      rintro e w2 ⟨rfl, hb2⟩
      have HB2 := Lib.hid (HB1.out.trans (hb2.mono (Nat.le_of_lt hsz1)))
      have HV2 := Lib.hid (HV1.out.below hb2)
      have HKk := Lib.hid (And.intro (cell_later hb2 c0) (cell_later hb2 c1))
      clear c0 c1 hb2 HC3 HV1
      obtain ⟨c0, c1⟩ := HKk.out
      by_cases h2 : eb = 0
      · have d4 : (eb != 0) = false := by rw [h2]; rfl
        have HE2 := Lib.hid (show cmpV T n a b = cmpF t.syn fa fb ∧ cmpE T n a b = 0 from ⟨HE.out.1.trans (by rw [if_neg (by omega)]), HE.out.2.trans (by rw [if_neg (by omega)]; exact h2)⟩)
        have HC4 := Lib.hid (type7_s _ ts cs n _ HV2.out hn)
        rw [HTs.out, HTy.out] at HC4
        unfold tyV at HC4
        dsimp only [Option.getD, Option.isSome] at HC4
        have HNa := Lib.hid (show normS t.syn a = some fa by
          have h0 := HS.out.1
          obtain ⟨f, hf⟩ := normE_some (h0.1.trans h1)
          rw [hf] at h0
          rw [hf]; exact congrArg some h0.2)
        have HNb := Lib.hid (show normS t.syn b = some fb by
          have h0 := HS.out.2
          obtain ⟨f, hf⟩ := normE_some (h0.1.trans h2)
          rw [hf] at h0
          rw [hf]; exact congrArg some h0.2)
        go_wp2_with fail
        refine HC4.out.mono ?_
        rintro e w3 ⟨rfl, hb3⟩
        have HB3 := Lib.hid (HB2.out.trans (hb3.mono HB2.out.size))
        have hal := (Below.refl w3.heap.size w3).alloc (Nat.le_refl _) (.cells #[.string t.name, .int .i64 t.syn, .bool t.single] 32)
        have HAL := Lib.hid (HB3.out.trans (hal.mono HB3.out.size))
        obtain ⟨x, hx⟩ : ∃ x, t.syn = x := ⟨_, rfl⟩
        rw [hx] at HE2 HNa HNb ⊢
        have HAL2 := HAL
        rw [hx] at HAL2
        clear hb3 HC4 c0 c1 hal hx HAL HE HS HTy
        by_cases h4 : x = 4
        · subst h4
          have HF := Lib.hid (show cmpF 4 fa fb = Nam.cmpN fa fb from rfl)
          go_wp2_with fail
          refine (Nam.rcompare_s fa fb _ hza hzb).mono ?_
          rintro e w4 ⟨rfl, hb4⟩
          have HB4 := Lib.hid (HAL2.out.trans (hb4.mono HAL2.out.size))
          clear hb4
          go_wp2_with fail
          go_ret2
          exact ⟨by rw [HE2.out.1, HE2.out.2, HF.out]; rfl, HB4.out⟩
        · have e4 : (x == 4) = false := beq_false_of_ne h4
          by_cases h3 : x = 3
          · subst h3
            have HF := Lib.hid (cmp_int HNa.out HNb.out)
            have HCa := Lib.hid (fun W => rnumber_s fa W hza)
            have HCb := Lib.hid (fun W => rnumber_s fb W hzb)
            obtain ⟨p, hp⟩ : ∃ x, (numS fa).getD 0 = x := ⟨_, rfl⟩
            obtain ⟨q, hq⟩ : ∃ x, (numS fb).getD 0 = x := ⟨_, rfl⟩
            rw [hp] at HCa
            rw [hq] at HCb
            rw [hp, hq] at HF
            clear hp hq
            go_wp2_with fail
            refine (HCa.out _).mono ?_
            rintro e w4 ⟨rfl, rfl⟩
            go_wp2_with fail
            refine (HCb.out _).mono ?_
            rintro e w4 ⟨rfl, rfl⟩
            by_cases g1 : p < q
            · have HF2 := Lib.hid (show cmpF 3 fa fb = -1 by rw [HF.out]; unfold Lib.compareInt; rw [if_pos g1])
              have g1' : decide (p < q) = true := decide_eq_true g1
              go_wp2_with fail
              go_ret2
              exact ⟨by rw [HE2.out.1, HE2.out.2, HF2.out]; rfl, HAL2.out⟩
            · have g1' : decide (p < q) = false := decide_eq_false g1
              by_cases g2 : q < p
              · have HF2 := Lib.hid (show cmpF 3 fa fb = 1 by rw [HF.out]; unfold Lib.compareInt; first | rw [if_neg g1, if_pos g2] | (rw [if_neg g1, if_neg (by omega)]))
                have g2' : decide (q < p) = true := decide_eq_true g2
                go_wp2_with fail
                go_ret2
                exact ⟨by rw [HE2.out.1, HE2.out.2, HF2.out]; rfl, HAL2.out⟩
              · have HF2 := Lib.hid (show cmpF 3 fa fb = 0 by rw [HF.out]; unfold Lib.compareInt; first | rw [if_neg g1, if_neg g2] | (rw [if_neg g1, if_pos (by omega)]))
                have g2' : decide (q < p) = false := decide_eq_false g2
                go_wp2_with fail
                go_ret2
                exact ⟨by rw [HE2.out.1, HE2.out.2, HF2.out]; rfl, HAL2.out⟩
          · have e3 : (x == 3) = false := beq_false_of_ne h3
            have HF := Lib.hid (show cmpF x fa fb = cmpS fa fb by unfold cmpF; rw [if_neg h3, if_neg h4])
            go_wp2_with fail
            refine (order_s fa fb _).mono ?_
            rintro e w4 ⟨rfl, rfl⟩
            go_wp2_with fail
            go_ret2
            exact ⟨by rw [HE2.out.1, HE2.out.2, HF.out]; rfl, HAL2.out⟩
      · have d4 : (eb != 0) = true := by simpa using h2
        have HE2 := Lib.hid (show cmpV T n a b = 0 ∧ cmpE T n a b = eb from ⟨HE.out.1.trans (by rw [if_pos (.inr h2)]), HE.out.2.trans (by rw [if_neg (by omega)])⟩)
        go_wp2_with fail
        go_ret2
        exact ⟨by rw [HE2.out.1, HE2.out.2]; rfl, HB2.out⟩
    · have d3 : (ea != 0) = true := by simpa using h1
      have HE2 := Lib.hid (show cmpV T n a b = 0 ∧ cmpE T n a b = ea from ⟨HE.out.1.trans (by rw [if_pos (.inl h1)]), HE.out.2.trans (by rw [if_pos h1])⟩)
      go_wp2_with fail
      go_ret2
      exact ⟨by rw [HE2.out.1, HE2.out.2]; rfl, HB1.out⟩

end Go.Proofs.YtclfjdnemafmeaaGreatDoor
end
