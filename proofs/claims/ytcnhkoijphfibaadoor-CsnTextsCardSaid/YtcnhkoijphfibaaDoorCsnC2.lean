/-
  Contracts of csn.vector, Covers and its closure. Condition: at most 1000000000 numbers.
-/
import Derived.Test.YtcnhkoijphfibaaDoorCsnC1
import Derived.Test.YtcnhkoijphfibaaDoorShelfF
import Derived.Lib.SliceRun
import Derived.Lib.SlBy
set_option maxRecDepth 100000
set_option linter.unusedVariables false
set_option linter.unusedSimpArgs false
set_option linter.unnecessarySimpa false
namespace Go.Proofs.YtcnhkoijphfibaaDoor
open Go.RowKit Go.PlainAid Go.Shelf

theorem vector_s (ao : Option Addr) (n cap : Nat) (l : List Cn) (w : World) (h : CnsAt w ao n cap l) :
    Calls Tryd.prog 47 #[.slice ao n cap] w fun e w' => ∃ bo m dap, e = .returned (.slice bo m dap) ∧ CnsAt w' bo m dap (vecO l) ∧ Below w.heap.size w w' := by
  have H := Lib.hid h
  have HC := Lib.hid (check_s ao n cap l w h)
  clear h
  obtain ⟨x, hx⟩ : ∃ x, chkC l = x := ⟨_, rfl⟩
  rw [hx] at HC
  by_cases h0 : x = 0
  · have HV := Lib.hid (show vecO l = l from if_pos (by rw [hx]; exact h0))
    subst h0
    clear hx
    go_enter Tryd.func47, Tryd.ntmps47
    go_wp2_with (go_at_call 25; refine HC.out.mono ?_; rintro e w' ⟨rfl, hb⟩)
    go_ret
    exact ⟨ao, n, cap, rfl, by rw [HV.out]; exact H.out.below hb, hb⟩
  · have HV := Lib.hid (show vecO l = [] from if_neg (by rw [hx]; exact h0))
    have d0 : (x != 0) = true := by simpa using h0
    clear hx h0
    go_enter Tryd.func47, Tryd.ntmps47
    go_wp2_with (go_at_call 25; refine HC.out.mono ?_; rintro e w' ⟨rfl, hb⟩)
    go_ret
    exact ⟨none, 0, 0, rfl, by rw [HV.out]; exact cns_nil _, hb⟩

/-! ### Covers -/
def cvP (c e : Cn) : Bool := decide (e.2.2 = c.2.2) && !decide (ltC e c)
def encC (x : Cn) : List Value := [.int .i64 x.1, .int .i64 x.2.1, .int .i64 x.2.2]
theorem get_cn (l : List Cn) (j : Nat) : l[j]! = cnA l j := by
  unfold cnA
  rw [List.getD_eq_getElem?_getD, List.getElem!_eq_getElem?_getD]
  rfl
set_option maxHeartbeats 8000000 in
theorem cov1_s (b : Nat) (c e : Cn) (w : World) (hk : KbC w b (cnB c)) :
    Calls Tryd.prog 48 #[cnV e, .pointer (some ⟨b, 0, none⟩)] w fun x w' => x = .returned (.bool (cvP c e)) ∧ Below w.heap.size w w' := by
  have HCk := Lib.hid (fun (x : Int) W (h : cmpC e c = x) => show Calls Tryd.prog 11 #[.agg #[.int .i64 e.1, .int .i64 e.2.1, .int .i64 e.2.2], .agg #[.int .i64 c.1, .int .i64 c.2.1, .int .i64 c.2.2]] W (fun q w' => q = .returned (.int .i64 x) ∧ Below W.heap.size W w') from h ▸ cmp_s e c W)
  have HT := Lib.hid (cmpC_cases e c)
  obtain ⟨e0, e1, e2⟩ := e
  obtain ⟨c0, c1, c2⟩ := c
  dsimp only at HCk
  show Calls _ _ #[.agg #[.int .i64 e0, .int .i64 e1, .int .i64 e2], .pointer (some ⟨b, 0, none⟩)] w _
  have hne : b ≠ w.heap.size := by have := hk.big; omega
  have hX := kbc_new w (cnB (e0, e1, e2))
  have hY := hk.step (box_below w (cnB (e0, e1, e2)))
  have HB := Lib.hid (box_below w (cnB (e0, e1, e2)))
  obtain ⟨x0, x1, x2⟩ := hX.box
  obtain ⟨y0, y1, y2⟩ := hY.box
  unfold cnB at x0 x1 x2 y0 y1 y2 HB
  dsimp only at x0 x1 x2 y0 y1 y2 HB
  clear hX hY
  obtain ⟨z0, z1, z2⟩ := hk.box
  dsimp only at z0 z1 z2
  by_cases h2 : e2 = c2
  · have HP := Lib.hid (show cvP (c0, c1, c2) (e0, e1, e2) = !decide (ltC (e0, e1, e2) (c0, c1, c2)) by unfold cvP; rw [decide_eq_true h2]; rfl)
    subst h2
    by_cases h0 : e0 = c0
    · subst h0
      by_cases h1 : e1 = c1
      · subst h1
        have HF := Lib.hid (show cvP (e0, e1, e2) (e0, e1, e2) = true by rw [HP.out, decide_eq_false (ltC_irr _)]; rfl)
        rw [HF.out]
        go_enter Tryd.func48, Tryd.ntmps48
        go_wp2_with fail
        go_ret
        exact ⟨rfl, HB.out⟩
      · have b1 : (e1 == c1) = false := by simpa using h1
        have HNE := Lib.hid (show ¬ (e0, e1, e2) = (e0, c1, e2) from fun q => h1 (by simpa using q))
        clear h1
        rcases HT.out with ⟨h, k⟩ | ⟨h, k⟩ | ⟨h, k⟩
        · have HF := Lib.hid (show cvP _ _ = false by rw [HP.out, decide_eq_true h]; rfl)
          rw [HF.out]
          go_enter Tryd.func48, Tryd.ntmps48
          go_wp2_with fail
          refine (HCk.out (-1) _ k).mono ?_
          rintro e w' ⟨rfl, hb⟩
          go_wp2_with fail
          go_ret
          exact ⟨rfl, HB.out.trans (hb.mono HB.out.size)⟩
        · have HF := Lib.hid (show cvP _ _ = true by rw [HP.out, decide_eq_false (ltC_asymm h)]; rfl)
          rw [HF.out]
          go_enter Tryd.func48, Tryd.ntmps48
          go_wp2_with fail
          refine (HCk.out 1 _ k).mono ?_
          rintro e w' ⟨rfl, hb⟩
          go_wp2_with fail
          go_ret
          exact ⟨rfl, HB.out.trans (hb.mono HB.out.size)⟩
        · exact absurd h HNE.out
    · have b0 : (e0 == c0) = false := by simpa using h0
      have HNE := Lib.hid (show ¬ (e0, e1, e2) = (c0, c1, e2) from fun q => h0 (Prod.mk.inj q).1)
      clear h0
      rcases HT.out with ⟨h, k⟩ | ⟨h, k⟩ | ⟨h, k⟩
      · have HF := Lib.hid (show cvP _ _ = false by rw [HP.out, decide_eq_true h]; rfl)
        rw [HF.out]
        go_enter Tryd.func48, Tryd.ntmps48
        go_wp2_with fail
        refine (HCk.out (-1) _ k).mono ?_
        rintro e w' ⟨rfl, hb⟩
        go_wp2_with fail
        go_ret
        exact ⟨rfl, HB.out.trans (hb.mono HB.out.size)⟩
      · have HF := Lib.hid (show cvP _ _ = true by rw [HP.out, decide_eq_false (ltC_asymm h)]; rfl)
        rw [HF.out]
        go_enter Tryd.func48, Tryd.ntmps48
        go_wp2_with fail
        refine (HCk.out 1 _ k).mono ?_
        rintro e w' ⟨rfl, hb⟩
        go_wp2_with fail
        go_ret
        exact ⟨rfl, HB.out.trans (hb.mono HB.out.size)⟩
      · exact absurd h HNE.out
  · have b2 : (e2 == c2) = false := by simpa using h2
    have HF := Lib.hid (show cvP (c0, c1, c2) (e0, e1, e2) = false by unfold cvP; rw [decide_eq_false h2]; rfl)
    clear h2
    go_enter Tryd.func48, Tryd.ntmps48
    go_wp2_with fail
    go_ret
    exact ⟨by rw [HF.out]; rfl, HB.out⟩

end Go.Proofs.YtcnhkoijphfibaaDoor
