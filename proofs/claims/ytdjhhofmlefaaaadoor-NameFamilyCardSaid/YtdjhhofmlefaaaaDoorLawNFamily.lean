/-
  Proved: identitylaw05.NameFamily returns true for every string and every pair (the tied card). No condition beyond the row's own.
-/
import Derived.Test.YtdjhhofmlefaaaaDoorNamLaws
set_option linter.unusedVariables false
set_option linter.unusedSimpArgs false
set_option linter.unnecessarySimpa false
namespace Go.Proofs.YtdjhhofmlefaaaaDoor
open Go.ChangeShapes Go.WideShapes Go.ChangeAt Go.RowKit Go.PlainAid
open Go.ChangeMaps (open_string shut_string)

theorem fmt_size {l : List Pr} (h : fmtE l = 0) : (fmtV l).size ≤ 1000000 := by
  obtain ⟨h1, h2⟩ := fmtE_ok h
  have hb := barC_len 600 (l.map fmtC) (fun p hq => by
    obtain ⟨q, hq1, rfl⟩ := List.mem_map.1 hq
    have := prE_small (h1 q hq1)
    have := fmtC_len q
    omega)
  rw [List.length_map] at hb
  have : l.length * (600 + 1) ≤ 8 * 601 := Nat.mul_le_mul_right _ h2
  unfold fmtV
  rw [if_pos h, ofB_size]; omega
theorem fmt_any (l : List Pr) : (fmtV l).size ≤ 1000000 := by
  by_cases h : fmtE l = 0
  · exact fmt_size h
  · unfold fmtV; rw [if_neg h]; exact Nat.zero_le _
theorem child_size (s : ByteArray) (p : Pr) : (childV s p).size ≤ 1000000 := by unfold childV; split; exact fmt_any _; exact Nat.zero_le _
theorem parent_size (s : ByteArray) : (parentV s).size ≤ 1000000 := by unfold parentV; split; exact Nat.zero_le _; exact fmt_any _
set_option maxRecDepth 100000 in
set_option maxHeartbeats 4000000 in
theorem family_s (s : ByteArray) (p : Pr) (w : World) :
    Calls Tryd.prog 6 #[.string s, .agg #[.string p.1, .string p.2]] w fun e w' => e = .returned (.bool true) ∧ Below w.heap.size w w' := by
  obtain ⟨p1, p2⟩ := p
  have B0 := below_new (w := w) (.cells #[.string p1, .string p2] 36)
  have HX := Lib.hid (pbox_new w (p1, p2))
  by_cases h1 : 300 < s.size
  · skip
    obtain ⟨c0, c1⟩ := HX.out.cells
    simp only [] at c0 c1
    go_enter Tryd.func6, Tryd.ntmps6
    go_wp2_with fail
    refine (long_yes s _ h1).mono ?_
    rintro e w' ⟨rfl, rfl⟩
    go_wp2_with fail
    refine (live_s _).mono ?_
    rintro e w1 ⟨rfl, hb⟩
    have B1 := below_next B0 hb
    clear hb
    go_wp2_with fail
    go_ret
    exact ⟨rfl, B1⟩
  by_cases h2 : 300 < p1.size
  · skip
    obtain ⟨c0, c1⟩ := HX.out.cells
    simp only [] at c0 c1
    go_enter Tryd.func6, Tryd.ntmps6
    go_wp2_with fail
    refine (long_no s _ h1).mono ?_
    rintro e w' ⟨rfl, rfl⟩
    go_wp2_with fail
    refine (long_yes p1 _ h2).mono ?_
    rintro e w' ⟨rfl, rfl⟩
    go_wp2_with fail
    refine (live_s _).mono ?_
    rintro e w1 ⟨rfl, hb⟩
    have B1 := below_next B0 hb
    clear hb
    go_wp2_with fail
    go_ret
    exact ⟨rfl, B1⟩
  by_cases h3 : 300 < p2.size
  · skip
    obtain ⟨c0, c1⟩ := HX.out.cells
    simp only [] at c0 c1
    go_enter Tryd.func6, Tryd.ntmps6
    go_wp2_with fail
    refine (long_no s _ h1).mono ?_
    rintro e w' ⟨rfl, rfl⟩
    go_wp2_with fail
    refine (long_no p1 _ h2).mono ?_
    rintro e w' ⟨rfl, rfl⟩
    go_wp2_with fail
    refine (long_yes p2 _ h3).mono ?_
    rintro e w' ⟨rfl, rfl⟩
    go_wp2_with fail
    refine (live_s _).mono ?_
    rintro e w1 ⟨rfl, hb⟩
    have B1 := below_next B0 hb
    clear hb
    go_wp2_with fail
    go_ret
    exact ⟨rfl, B1⟩
  obtain ⟨A, hA⟩ : ∃ x, parentV s = x := ⟨_, rfl⟩
  obtain ⟨C, hC⟩ : ∃ x, childV s (p1, p2) = x := ⟨_, rfl⟩
  obtain ⟨E, hE⟩ : ∃ x, childE s (p1, p2) = x := ⟨_, rfl⟩
  obtain ⟨n, hn⟩ : ∃ x, (compsV s).length = x := ⟨_, rfl⟩
  have hn8 : n ≤ 8 := by rw [← hn]; exact compsV_few s
  have HC := Lib.hid (And.intro hC hE)
  have HN := Lib.hid hn
  have hcs : C.size ≤ 1000000 := by rw [← hC]; exact child_size s (p1, p2)
  have has : A.size ≤ 1000000 := by rw [← hA]; exact parent_size s
  have q1 : (A.toList != A.toList) = false := by simp
  have q2 : (C.toList != C.toList) = false := by simp
  have q3 : (E != E) = false := by simp
  have q4 : (s.toList == s.toList) = true := beq_self_eq_true _
  have q5 : ((n : Int) != (n : Int)) = false := by simp
  have q6 : (((n + 1 : Nat) : Int) == (n : Int) + 1) = true := beq_iff_eq.2 (by omega)
  have HB := Lib.hid (fun (h : E = 0) => show (parentV C = s ∧ parentB C = true) ∧ (compsV C).length = n + 1 ∧ underB C s = true ∧ underB s C = false by
    have := child_back (s := s) (p := (p1, p2)) (by rw [hE]; exact h)
    rw [hC, hn] at this
    exact ⟨⟨this.2.1, this.1⟩, this.2.2.1, this.2.2.2.1, this.2.2.2.2⟩)
  have HU := Lib.hid (fun (h : parentB s = true) => show underB s A = true by rw [← hA]; exact under_parent h)
  have HA := Lib.hid hA
  clear hA hC hE hn
  cases k : parentB s
  · have HP := Lib.hid (And.intro HA.out k)
    clear k HU
    by_cases h0 : E = 0
    · have HX0 := Lib.hid (HB.out h0)
      clear HB
      subst h0
      obtain ⟨c0, c1⟩ := HX.out.cells
      simp only [] at c0 c1
      go_enter Tryd.func6, Tryd.ntmps6
      go_wp2_with fail
      refine (long_no s _ h1).mono ?_
      rintro e w' ⟨rfl, rfl⟩
      go_wp2_with fail
      refine (long_no p1 _ h2).mono ?_
      rintro e w' ⟨rfl, rfl⟩
      go_wp2_with fail
      refine (long_no p2 _ h3).mono ?_
      rintro e w' ⟨rfl, rfl⟩
      go_wp2_with fail
      refine (parent_k s A false _ (by omega) HP.out).mono ?_
      rintro e w1 ⟨rfl, hb⟩
      have B1 := below_next B0 hb
      have HX := Lib.hid (HX.out.below hb)
      clear c0 c1
      obtain ⟨c0, c1⟩ := HX.out.cells
      simp only [] at c0 c1
      clear hb
      go_wp2_with fail
      refine (rparent_k s A false _ (by omega) HP.out).mono ?_
      rintro e w2 ⟨rfl, hb⟩
      have B2 := below_next B1 hb
      have HX := Lib.hid (HX.out.below hb)
      clear c0 c1
      obtain ⟨c0, c1⟩ := HX.out.cells
      simp only [] at c0 c1
      clear hb
      go_wp2_with fail
      refine (child_k s (p1, p2) C 0 _ (by omega) (by simp only []; omega) (by simp only []; omega) HC.out).mono ?_
      rintro e w3 ⟨rfl, hb⟩
      have B3 := below_next B2 hb
      have HX := Lib.hid (HX.out.below hb)
      clear c0 c1
      obtain ⟨c0, c1⟩ := HX.out.cells
      simp only [] at c0 c1
      clear hb
      go_wp2_with fail
      refine (rchild_k s (p1, p2) C 0 _ (by omega) (by simp only []; omega) (by simp only []; omega) HC.out).mono ?_
      rintro e w4 ⟨rfl, hb⟩
      have B4 := below_next B3 hb
      have HX := Lib.hid (HX.out.below hb)
      clear c0 c1
      obtain ⟨c0, c1⟩ := HX.out.cells
      simp only [] at c0 c1
      clear hb
      go_wp2_with fail
      refine (depth_k s n _ (by omega) HN.out).mono ?_
      rintro e w5 ⟨rfl, hb⟩
      have B5 := below_next B4 hb
      clear c0 c1
      clear hb
      go_wp2_with fail
      refine (rdepth_k s n _ (by omega) HN.out).mono ?_
      rintro e w6 ⟨rfl, hb⟩
      have B6 := below_next B5 hb
      clear hb
      go_wp2_with fail
      refine (live_s _).mono ?_
      rintro e w7 ⟨rfl, hb⟩
      have B7 := below_next B6 hb
      clear hb
      go_wp2_with fail
      refine (parent_k C s true _ hcs HX0.out.1).mono ?_
      rintro e w8 ⟨rfl, hb⟩
      have B8 := below_next B7 hb
      clear hb
      go_wp2_with fail
      refine (depth_k C (n + 1) _ hcs HX0.out.2.1).mono ?_
      rintro e w9 ⟨rfl, hb⟩
      have B9 := below_next B8 hb
      clear hb
      go_wp2_with fail
      refine (depth_k s n _ (by omega) HN.out).mono ?_
      rintro e w10 ⟨rfl, hb⟩
      have B10 := below_next B9 hb
      clear hb
      go_wp2_with fail
      refine (under_k C s true _ hcs (by omega) HX0.out.2.2.1).mono ?_
      rintro e w11 ⟨rfl, hb⟩
      have B11 := below_next B10 hb
      clear hb
      go_wp2_with fail
      refine (under_k s C false _ (by omega) hcs HX0.out.2.2.2).mono ?_
      rintro e w12 ⟨rfl, hb⟩
      have B12 := below_next B11 hb
      clear hb
      go_wp2_with fail
      go_ret
      exact ⟨rfl, B12⟩
    · have q7 : (E != 0) = true := by simpa using h0
      clear h0 HB
      obtain ⟨c0, c1⟩ := HX.out.cells
      simp only [] at c0 c1
      go_enter Tryd.func6, Tryd.ntmps6
      go_wp2_with fail
      refine (long_no s _ h1).mono ?_
      rintro e w' ⟨rfl, rfl⟩
      go_wp2_with fail
      refine (long_no p1 _ h2).mono ?_
      rintro e w' ⟨rfl, rfl⟩
      go_wp2_with fail
      refine (long_no p2 _ h3).mono ?_
      rintro e w' ⟨rfl, rfl⟩
      go_wp2_with fail
      refine (parent_k s A false _ (by omega) HP.out).mono ?_
      rintro e w1 ⟨rfl, hb⟩
      have B1 := below_next B0 hb
      have HX := Lib.hid (HX.out.below hb)
      clear c0 c1
      obtain ⟨c0, c1⟩ := HX.out.cells
      simp only [] at c0 c1
      clear hb
      go_wp2_with fail
      refine (rparent_k s A false _ (by omega) HP.out).mono ?_
      rintro e w2 ⟨rfl, hb⟩
      have B2 := below_next B1 hb
      have HX := Lib.hid (HX.out.below hb)
      clear c0 c1
      obtain ⟨c0, c1⟩ := HX.out.cells
      simp only [] at c0 c1
      clear hb
      go_wp2_with fail
      refine (child_k s (p1, p2) C E _ (by omega) (by simp only []; omega) (by simp only []; omega) HC.out).mono ?_
      rintro e w3 ⟨rfl, hb⟩
      have B3 := below_next B2 hb
      have HX := Lib.hid (HX.out.below hb)
      clear c0 c1
      obtain ⟨c0, c1⟩ := HX.out.cells
      simp only [] at c0 c1
      clear hb
      go_wp2_with fail
      refine (rchild_k s (p1, p2) C E _ (by omega) (by simp only []; omega) (by simp only []; omega) HC.out).mono ?_
      rintro e w4 ⟨rfl, hb⟩
      have B4 := below_next B3 hb
      have HX := Lib.hid (HX.out.below hb)
      clear c0 c1
      obtain ⟨c0, c1⟩ := HX.out.cells
      simp only [] at c0 c1
      clear hb
      go_wp2_with fail
      refine (depth_k s n _ (by omega) HN.out).mono ?_
      rintro e w5 ⟨rfl, hb⟩
      have B5 := below_next B4 hb
      clear c0 c1
      clear hb
      go_wp2_with fail
      refine (rdepth_k s n _ (by omega) HN.out).mono ?_
      rintro e w6 ⟨rfl, hb⟩
      have B6 := below_next B5 hb
      clear hb
      go_wp2_with fail
      refine (live_s _).mono ?_
      rintro e w7 ⟨rfl, hb⟩
      have B7 := below_next B6 hb
      clear hb
      go_wp2_with fail
      go_ret
      exact ⟨rfl, B7⟩
  · have HP := Lib.hid (And.intro HA.out k)
    have HUA := Lib.hid (HU.out k)
    clear k HU
    by_cases h0 : E = 0
    · have HX0 := Lib.hid (HB.out h0)
      clear HB
      subst h0
      obtain ⟨c0, c1⟩ := HX.out.cells
      simp only [] at c0 c1
      go_enter Tryd.func6, Tryd.ntmps6
      go_wp2_with fail
      refine (long_no s _ h1).mono ?_
      rintro e w' ⟨rfl, rfl⟩
      go_wp2_with fail
      refine (long_no p1 _ h2).mono ?_
      rintro e w' ⟨rfl, rfl⟩
      go_wp2_with fail
      refine (long_no p2 _ h3).mono ?_
      rintro e w' ⟨rfl, rfl⟩
      go_wp2_with fail
      refine (parent_k s A true _ (by omega) HP.out).mono ?_
      rintro e w1 ⟨rfl, hb⟩
      have B1 := below_next B0 hb
      have HX := Lib.hid (HX.out.below hb)
      clear c0 c1
      obtain ⟨c0, c1⟩ := HX.out.cells
      simp only [] at c0 c1
      clear hb
      go_wp2_with fail
      refine (rparent_k s A true _ (by omega) HP.out).mono ?_
      rintro e w2 ⟨rfl, hb⟩
      have B2 := below_next B1 hb
      have HX := Lib.hid (HX.out.below hb)
      clear c0 c1
      obtain ⟨c0, c1⟩ := HX.out.cells
      simp only [] at c0 c1
      clear hb
      go_wp2_with fail
      refine (child_k s (p1, p2) C 0 _ (by omega) (by simp only []; omega) (by simp only []; omega) HC.out).mono ?_
      rintro e w3 ⟨rfl, hb⟩
      have B3 := below_next B2 hb
      have HX := Lib.hid (HX.out.below hb)
      clear c0 c1
      obtain ⟨c0, c1⟩ := HX.out.cells
      simp only [] at c0 c1
      clear hb
      go_wp2_with fail
      refine (rchild_k s (p1, p2) C 0 _ (by omega) (by simp only []; omega) (by simp only []; omega) HC.out).mono ?_
      rintro e w4 ⟨rfl, hb⟩
      have B4 := below_next B3 hb
      have HX := Lib.hid (HX.out.below hb)
      clear c0 c1
      obtain ⟨c0, c1⟩ := HX.out.cells
      simp only [] at c0 c1
      clear hb
      go_wp2_with fail
      refine (depth_k s n _ (by omega) HN.out).mono ?_
      rintro e w5 ⟨rfl, hb⟩
      have B5 := below_next B4 hb
      clear c0 c1
      clear hb
      go_wp2_with fail
      refine (rdepth_k s n _ (by omega) HN.out).mono ?_
      rintro e w6 ⟨rfl, hb⟩
      have B6 := below_next B5 hb
      clear hb
      go_wp2_with fail
      refine (live_s _).mono ?_
      rintro e w7 ⟨rfl, hb⟩
      have B7 := below_next B6 hb
      clear hb
      go_wp2_with fail
      refine (under_k s A true _ (by omega) has HUA.out).mono ?_
      rintro e w8 ⟨rfl, hb⟩
      have B8 := below_next B7 hb
      clear hb
      go_wp2_with fail
      refine (parent_k C s true _ hcs HX0.out.1).mono ?_
      rintro e w9 ⟨rfl, hb⟩
      have B9 := below_next B8 hb
      clear hb
      go_wp2_with fail
      refine (depth_k C (n + 1) _ hcs HX0.out.2.1).mono ?_
      rintro e w10 ⟨rfl, hb⟩
      have B10 := below_next B9 hb
      clear hb
      go_wp2_with fail
      refine (depth_k s n _ (by omega) HN.out).mono ?_
      rintro e w11 ⟨rfl, hb⟩
      have B11 := below_next B10 hb
      clear hb
      go_wp2_with fail
      refine (under_k C s true _ hcs (by omega) HX0.out.2.2.1).mono ?_
      rintro e w12 ⟨rfl, hb⟩
      have B12 := below_next B11 hb
      clear hb
      go_wp2_with fail
      refine (under_k s C false _ (by omega) hcs HX0.out.2.2.2).mono ?_
      rintro e w13 ⟨rfl, hb⟩
      have B13 := below_next B12 hb
      clear hb
      go_wp2_with fail
      go_ret
      exact ⟨rfl, B13⟩
    · have q7 : (E != 0) = true := by simpa using h0
      clear h0 HB
      obtain ⟨c0, c1⟩ := HX.out.cells
      simp only [] at c0 c1
      go_enter Tryd.func6, Tryd.ntmps6
      go_wp2_with fail
      refine (long_no s _ h1).mono ?_
      rintro e w' ⟨rfl, rfl⟩
      go_wp2_with fail
      refine (long_no p1 _ h2).mono ?_
      rintro e w' ⟨rfl, rfl⟩
      go_wp2_with fail
      refine (long_no p2 _ h3).mono ?_
      rintro e w' ⟨rfl, rfl⟩
      go_wp2_with fail
      refine (parent_k s A true _ (by omega) HP.out).mono ?_
      rintro e w1 ⟨rfl, hb⟩
      have B1 := below_next B0 hb
      have HX := Lib.hid (HX.out.below hb)
      clear c0 c1
      obtain ⟨c0, c1⟩ := HX.out.cells
      simp only [] at c0 c1
      clear hb
      go_wp2_with fail
      refine (rparent_k s A true _ (by omega) HP.out).mono ?_
      rintro e w2 ⟨rfl, hb⟩
      have B2 := below_next B1 hb
      have HX := Lib.hid (HX.out.below hb)
      clear c0 c1
      obtain ⟨c0, c1⟩ := HX.out.cells
      simp only [] at c0 c1
      clear hb
      go_wp2_with fail
      refine (child_k s (p1, p2) C E _ (by omega) (by simp only []; omega) (by simp only []; omega) HC.out).mono ?_
      rintro e w3 ⟨rfl, hb⟩
      have B3 := below_next B2 hb
      have HX := Lib.hid (HX.out.below hb)
      clear c0 c1
      obtain ⟨c0, c1⟩ := HX.out.cells
      simp only [] at c0 c1
      clear hb
      go_wp2_with fail
      refine (rchild_k s (p1, p2) C E _ (by omega) (by simp only []; omega) (by simp only []; omega) HC.out).mono ?_
      rintro e w4 ⟨rfl, hb⟩
      have B4 := below_next B3 hb
      have HX := Lib.hid (HX.out.below hb)
      clear c0 c1
      obtain ⟨c0, c1⟩ := HX.out.cells
      simp only [] at c0 c1
      clear hb
      go_wp2_with fail
      refine (depth_k s n _ (by omega) HN.out).mono ?_
      rintro e w5 ⟨rfl, hb⟩
      have B5 := below_next B4 hb
      clear c0 c1
      clear hb
      go_wp2_with fail
      refine (rdepth_k s n _ (by omega) HN.out).mono ?_
      rintro e w6 ⟨rfl, hb⟩
      have B6 := below_next B5 hb
      clear hb
      go_wp2_with fail
      refine (live_s _).mono ?_
      rintro e w7 ⟨rfl, hb⟩
      have B7 := below_next B6 hb
      clear hb
      go_wp2_with fail
      refine (under_k s A true _ (by omega) has HUA.out).mono ?_
      rintro e w8 ⟨rfl, hb⟩
      have B8 := below_next B7 hb
      clear hb
      go_wp2_with fail
      go_ret
      exact ⟨rfl, B8⟩

theorem family_types : ∀ t ∈ [9, 36], Tryd.prog.readableRec t = true ∧ t < Tryd.prog.types.size := by
  have h : ([9, 36].all fun t => Tryd.prog.readableRec t && decide (t < Tryd.prog.types.size)) = true := by kernel_rfl
  intro t ht
  have := List.all_eq_true.1 h t ht
  simpa using this

set_option maxRecDepth 100000 in
theorem family_contract (H : Type) (enc : TypeId × Value → H) (W : World) (base : Nat) (args : Array Value) (ds gs : List (DataW H)) (before : List MemPlace)
    (hval : ∀ (j : Nat) t v, Tryd.f6.params[j]? = some t → args[j]? = some v → Value.okWide Tryd.prog W .any base t v)
    (hW : DataW.Whole enc Tryd.prog Tryd.f6.params.toList Rows.nameFamilySpec.vars false W args.toList ds gs before) (hL : laidMetH Tryd.prog Rows.nameFamilyRow.laid W) (hsh : W.ShapedOpen Tryd.prog) :
    Calls Tryd.prog 6 args W fun e W' => ∃ v, e = .returned v ∧ Rows.nameFamilySpec.post enc Tryd.prog Tryd.f6 false true false false W args v W' := by
  have hW' := hW
  obtain ⟨p, q, hA0, hV, rfl, hfz, hnd⟩ := hW
  have hA : DataW.TrodAll enc Tryd.prog W 0 (fun _ => true) true Tryd.f6.params.toList args.toList ds p := hA0
  obtain ⟨rfl, rfl⟩ := trodVars_none hV
  simp only [List.append_nil] at hW'
  have hlt : ∀ x ∈ p, x.block < W.heap.size := fun x hx => by simpa using hW'.lt x hx
  have fin : ∀ W', Below W.heap.size W W' → DataW.TrodAll enc Tryd.prog W' 0 (fun b => decide (b < W.heap.size)) true [9, 36] args.toList ds p := fun W' hb => by
    rw [Tryd.params6] at hA
    exact trodAll_below hb _ _ _ _ family_types hA hlt
  clear hA0
  rw [Tryd.params6] at hA hval
  obtain ⟨v0, vs0, d0, ds0, p0, q0, hargs, rfl, hp0, h0, r0⟩ := trodAll_cons hA
  obtain ⟨v1, vs1, d1, ds1, p1, q1, rfl, rfl, hp1, h1, r1⟩ := trodAll_cons r0
  obtain ⟨rfl, rfl, rfl⟩ := trodAll_nil r1
  obtain rfl : args = #[v0, v1] := by cases args; simp_all
  obtain ⟨s, rfl, rfl, rfl, hs0⟩ := open_string Tryd.underlying9 (hval 0 9 v0 rfl rfl) h0
  obtain ⟨x, rfl⟩ := open_pair (hval 1 36 v1 rfl rfl) h1
  refine (family_s s x W  ).mono fun e W' ⟨he, hb⟩ => ?_
  subst he
  exact ⟨_, rfl, _, _, _, [], p, [], hW', trodAll_mk1 (shut_bool Tryd.underlying4 _), fin W' hb, rfl, hb.frame _, fun h => by cases h⟩

set_option maxRecDepth 100000 in
theorem family_lifted (os : Os) (started : os.Started) (H : Type) (enc : TypeId × Value → H) (F : Stop.Interp) :
    ReturnsInHanded {} Tryd.checked os 6 .any ((OpenSpec.ofChange Rows.nameFamilySpec).preRow enc Tryd.prog Tryd.f6 Rows.nameFamilyRow.domain false Rows.nameFamilyRow.laid) (((OpenSpec.ofChange Rows.nameFamilySpec).at F).post enc Tryd.prog Tryd.f6 false true false false) := by
  refine returnsInHanded_of_row (C := Tryd.checked) (s := OpenSpec.ofChange Rows.nameFamilySpec) own started (by kernel_rfl) Tryd.func6
    (witness_row (enc := enc) (C := Tryd.checked) false (World.laidAll Tryd.prog os Rows.nameFamilyRow.laid) #[.string ⟨#[]⟩, .agg #[.string ⟨#[]⟩, .string ⟨#[]⟩]] (World.laidAll_os _ _ _)
      (World.shaped_of_ZipB (by kernel_rfl) (by kernel_rfl)) (by kernel_rfl)
      (OpenSpec.preRow_of_cond 8 (x := ([.lit (.string []), .agg [.lit (.string []), .lit (.string [])]], [], [])) (by kernel_rfl) (by kernel_rfl) (fun k hk => by cases hk) (by kernel_rfl)
        (by rw [MakeChecks.laidMetH_plain _ _ _ (by kernel_rfl)]; exact laidMet_laidAll _ (by kernel_rfl) (by kernel_rfl)))) ?_
  intro W base args ds gs before hval hW _ _ _ hL hsh _
  exact family_contract H enc W base args ds gs before hval hW hL hsh

set_option maxRecDepth 100000 in
theorem family_said : Rows.NameFamilySaid :=
  OpenClaim.holds_of_cond 6 Tryd.f6 rfl rfl rfl rfl rfl rfl rfl ⟨rfl, rfl, rfl, rfl, rfl⟩ rfl rfl rfl rfl rfl (by kernel_rfl) Tryd.func6 (by kernel_rfl)
    (of_decide_eq_true (by kernel_rfl)) (by unfold Func.isWrapper; first | (rw [if_pos (by decide +kernel)]; kernel_rfl) | (rw [if_neg (by decide +kernel)]; exact ⟨rfl, rfl⟩))
    (fun os started H enc _ F => by rw [OpenClaim.pre_eq_preRow]; exact family_lifted os started H enc F)

set_option maxRecDepth 100000 in
theorem family_plain (f : FuncId) (fn : Func) (hf : Tryd.pinned.checked.prog.funcNamed "identity/identitylaw05.NameFamily" = some f) (hfn : Tryd.pinned.checked.prog.funcs[f]? = some fn) :
    false = Tryd.pinned.checked.prog.looks [] ∧ ∀ (j : Nat) t, fn.params[j]? = some t → Tryd.pinned.checked.prog.wantsStandIn t = false := by
  obtain rfl : f = 6 := Option.some.inj ((show Tryd.prog.funcNamed "identity/identitylaw05.NameFamily" = some 6 by kernel_rfl).symm.trans hf) |>.symm
  obtain rfl : fn = Tryd.f6 := (Option.some.inj (Tryd.func6.symm.trans hfn)).symm
  refine ⟨by kernel_rfl, fun j t ht => ?_⟩
  rw [Tryd.params6] at ht
  have hm : t ∈ [9, 36] := by simpa using Array.mem_of_getElem? ht
  have hall : ([9, 36].all fun u => !Tryd.prog.wantsStandIn u) = true := by kernel_rfl
  exact (show Tryd.prog.wantsStandIn t = false by simpa using List.all_eq_true.1 hall t hm)

/-- THE CARD -/
theorem family_card : Rows.NameFamilyCardSaid :=
  Claim7.holds_tied_plain_at .later [] _ _ _ _ family_said (fun _ h => by cases h) (by kernel_rfl) (fun _ h => by cases h) nameFamily_row_tie rfl ⟨rfl, rfl⟩ (by kernel_rfl) rfl family_plain (by kernel_rfl)
end Go.Proofs.YtdjhhofmlefaaaaDoor
