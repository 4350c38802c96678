/-
  Contract of csn.Check. Condition: at most 1000000000 numbers.
-/
import Derived.Test.YtcnhkoijphfibaaDoorCsnB
import Derived.Deep.QuietTactic
import Derived.BigQuiet
set_option maxRecDepth 100000
set_option linter.unusedVariables false
set_option linter.unusedSimpArgs false
set_option linter.unnecessarySimpa false
namespace Go.Proofs.YtcnhkoijphfibaaDoor
open Go.RowKit Go.PlainAid

/-- which replicas have been seen -/
def seenL (l : List Cn) (i : Nat) : List Value := (List.range 8).map fun (k : Nat) => .bool (seenC l i (k : Int))
def seenO (l : List Cn) (i : Nat) : Obj := .cells (seenL l i).toArray 58
theorem seenL_at (l : List Cn) (i k : Nat) (hk : k < 8) : (seenL l i).toArray[k]? = some (.bool (seenC l i (k : Int))) := by
  unfold seenL
  simp [hk]
theorem seenL_get (l : List Cn) (i j : Nat) (h : j < (seenL l i).length) : (seenL l i)[j] = .bool (seenC l i (j : Int)) := by simp [seenL]
theorem seenL_len (l : List Cn) (i : Nat) : (seenL l i).length = 8 := by simp [seenL]
theorem seenL_set (l : List Cn) (i k : Nat) (hi : i < l.length) (hk : k < 8) (e : (cnA l i).2.2 = (k : Int)) : (seenL l i).toArray.setIfInBounds k (.bool true) = (seenL l (i + 1)).toArray := by
  rw [List.setIfInBounds_toArray]
  congr 1
  apply List.ext_getElem
  · rw [List.length_set, seenL_len, seenL_len]
  · intro j h1 h2
    rw [List.getElem_set, seenL_get, seenL_get, seenC_succ hi, e]
    by_cases q : k = j
    · subst q; simp
    · rw [if_neg q]
      have : decide ((k : Int) = (j : Int)) = false := decide_eq_false (by omega)
      rw [this, Bool.or_false]
theorem seenL_zero (l : List Cn) : (seenL l 0).toArray = #[.bool false, .bool false, .bool false, .bool false, .bool false, .bool false, .bool false, .bool false] := by
  unfold seenL seenC
  simp [List.range, List.range.loop]
theorem fst_step {l : List Cn} {i : Nat} (h : ∀ j, j < i → errC l j = 0) (h0 : errC l i = 0) : ∀ j, j < i + 1 → errC l j = 0 := fun j hj => if e : j = i then by rw [e]; exact h0 else h j (by omega)
theorem chk_hit {l : List Cn} {i : Nat} (h : ∀ j, j < i → errC l j = 0) (hi : i < l.length) {x : Int} (e : errC l i = x) (hx : x ≠ 0) : chkC l = x := by
  subst e
  exact fstC_hit h hx hi
set_option maxHeartbeats 8000000 in
theorem check_s (ao : Option Addr) (n cap : Nat) (l : List Cn) (w : World) (h : CnsAt w ao n cap l) :
    Calls Tryd.prog 25 #[.slice ao n cap] w fun e w' => e = .returned (.int .i64 (chkC l)) ∧ Below w.heap.size w w' := by
  obtain ⟨h1, h2, h3, h4, h5⟩ := h
  subst h1
  unfold maxLen at h3
  have H4 := Lib.hid h4; clear h4 h5
  have HK0 := Lib.hid (show KbC (w.alloc (.cells #[.bool false, .bool false, .bool false, .bool false, .bool false, .bool false, .bool false, .bool false] 58)) w.heap.size (seenO l 0) by
    unfold seenO; rw [seenL_zero]; exact kbc_new _ _)
  have HB0 := Lib.hid (box_below w (.cells #[.bool false, .bool false, .bool false, .bool false, .bool false, .bool false, .bool false, .bool false] 58))
  go_enter Tryd.func25, Tryd.ntmps25
  go_wp2_with fail
  go_loopw [8] (fun iv wr => ∃ i : Nat, i ≤ l.length ∧ iv = .int .i64 i ∧ Hid (KbC wr w.heap.size (seenO l i)) ∧ Hid (∀ j, j < i → errC l j = 0) ∧ Hid (Below w.heap.size w wr)) (fun iv _ => l.length - (intOf iv).toNat)
  case atStart => exact ⟨0, Nat.zero_le _, rfl, HK0, Lib.hid (fun j hj => absurd hj (Nat.not_lt_zero _)), HB0⟩
  case round =>
    obtain ⟨i, hi, rfl, HK, HE, HB⟩ := hrel
    by_cases hlt : i < l.length
    · have d1 : (i : Int) < (l.length : Int) := by omega
      obtain ⟨b, off, rfl, hs⟩ := H4.out (by omega)
      have HS := Lib.hid (hs.below HB.out hs.1)
      obtain ⟨c0, c1, c2⟩ := HS.out.2 i hlt
      clear hs
      obtain ⟨⟨t, s, r⟩, hc⟩ : ∃ c, cnA l i = c := ⟨_, rfl⟩
      rw [hc] at c0 c1 c2
      dsimp only at c0 c1 c2
      have HC := Lib.hid hc
      clear hc
      have hv1 := vld_k (t, s, r)
      dsimp only at hv1
      cases hv : vldC (t, s, r)
      · have HF := Lib.hid (chk_hit HE.out hlt (show errC l i = 2 by unfold errC; rw [HC.out, if_pos (fun k => by rw [(vldC_iff _).2 k] at hv; cases hv)]) (by decide))
        have HB2 := Lib.hid (below_allocs [cnB (t, s, r), cnB (t, s, r)] _ _ _ HB.out HB.out.size)
        go_wp2_with fail
        refine (hv1 _ _ hv).mono ?_
        rintro e w' ⟨rfl, rfl⟩
        go_wp2_with fail
        go_ret
        exact ⟨by rw [HF.out]; rfl, HB2.out⟩
      · have hV := (vldC_iff _).1 hv
        have HV := Lib.hid hV
        unfold Vld at hV
        dsimp only at hV
        obtain ⟨v0, v1, v2, v3, v4, v5⟩ := hV
        obtain ⟨k, rfl⟩ : ∃ k : Nat, r = (k : Int) := ⟨r.toNat, by omega⟩
        have hk8 : k < 8 := by omega
        clear v0 v1 v2 v3 v4
        have hX := below_allocs [cnB (t, s, (k : Int)), cnB (t, s, (k : Int))] _ _ _ (Below.refl wr.heap.size wr) (Nat.le_refl _)
        have HX := Lib.hid hX
        have HBX := Lib.hid (KbC.step (kbc_new wr (cnB (t, s, (k : Int)))) (box_below _ (cnB (t, s, (k : Int)))))
        unfold cnB at HX HBX
        dsimp only [List.foldl] at HX HBX
        clear hX
        go_wp2_with fail
        refine (hv1 _ _ hv).mono ?_
        rintro e w' ⟨rfl, rfl⟩
        generalize (wr.alloc (.cells #[.int .i64 t, .int .i64 s, .int .i64 (k : Int)] 23)).alloc (.cells #[.int .i64 t, .int .i64 s, .int .i64 (k : Int)] 23) = W1 at HX HBX ⊢
        have HKX := Lib.hid (HK.out.step HX.out)
        have g0 : W1.cell? ⟨w.heap.size, k, none⟩ = some (.bool (seenC l i (k : Int))) := HKX.out.cell (seenL_at l i k hk8)
        have x2 : W1.cell? ⟨wr.heap.size, 2, none⟩ = some (.int .i64 (k : Int)) := HBX.out.cell rfl
        have HBB := Lib.hid (HB.out.trans (HX.out.mono HB.out.size))
        obtain ⟨sb, hsb⟩ : ∃ q, seenC l i (k : Int) = q := ⟨_, rfl⟩
        rw [hsb] at g0
        have k0 : (0 : Int) ≤ (k : Int) := by omega
        cases sb
        · have HNs := Lib.hid hsb
          clear hsb
          have hfr : W1.frozen? ⟨w.heap.size, k, none⟩ = false := HKX.out.frz
          have HKN := Lib.hid (fun q => show KbC ((W1.drewN q).setCell ⟨w.heap.size, k, none⟩ (.bool true)) w.heap.size (seenO l (i + 1)) by
            have := (show KbC (W1.drewN q) w.heap.size (seenO l i) from HKX.out).set (i := k) (.bool true)
            rw [seenL_set l i k hlt hk8 (by rw [HC.out])] at this
            exact this)
          have HBN := Lib.hid (fun q => (show Below w.heap.size w (W1.drewN q) from HBB.out.trans ⟨rfl, rfl, rfl, Nat.le_refl _, fun _ _ => rfl⟩).setCell (p := ⟨w.heap.size, k, none⟩) (Nat.le_refl _) (.bool true))
          have HBQ := Lib.hid (fun q => show Below w.heap.size w (W1.drewN q) from HBB.out.trans ⟨rfl, rfl, rfl, Nat.le_refl _, fun _ _ => rfl⟩)
          rcases Nat.eq_zero_or_pos i with hi0 | hi0
          · have HN := Lib.hid (fst_step HE.out (show errC l i = 0 by
              unfold errC; rw [HC.out, if_neg (fun q => q HV.out), if_neg (by rw [HNs.out]; exact fun q => by cases q), if_neg (fun q => by omega)]))
            subst hi0
            go_wp2_with fail
            go_quiet (fail)
            go_wp2_with fail
            exact ⟨⟨1, by omega, rfl, Lib.hid (HKN.out _), HN, Lib.hid (HBN.out _)⟩, by simp [intOf]; omega⟩
          · obtain ⟨j, rfl⟩ : ∃ j, i = j + 1 := ⟨i - 1, by omega⟩
            have p2 : W1.cell? ⟨b, off + j * 3 + 2, none⟩ = some (.int .i64 (cnA l j).2.2) := ((HS.out.below HX.out HS.out.1).2 j (by omega)).2.2
            obtain ⟨r', hr'⟩ : ∃ q, (cnA l j).2.2 = q := ⟨_, rfl⟩
            rw [hr'] at p2
            have j0 : (0 : Int) ≤ (j : Int) := by omega
            have j1 : (j : Int) < (l.length : Int) := by omega
            have j2 : (0 : Int) < (j : Int) + 1 := by omega
            by_cases hlr : (k : Int) < r'
            · have d2 : decide ((k : Int) < r') = true := decide_eq_true hlr
              have HF := Lib.hid (chk_hit HE.out hlt (show errC l (j + 1) = 4 by
                unfold errC; rw [HC.out, if_neg (fun q => q HV.out), if_neg (by rw [HNs.out]; exact fun q => by cases q), if_pos ⟨by omega, by rw [Nat.add_sub_cancel, hr']; exact hlr⟩]) (by decide))
              clear hr'
              go_wp2_with fail
              go_quiet (fail)
              go_wp2_with fail
              go_ret
              exact ⟨by rw [HF.out]; rfl, HBQ.out _⟩
            · have d2 : decide ((k : Int) < r') = false := decide_eq_false hlr
              have HN := Lib.hid (fst_step HE.out (show errC l (j + 1) = 0 by
                unfold errC; rw [HC.out, if_neg (fun q => q HV.out), if_neg (by rw [HNs.out]; exact fun q => by cases q), if_neg (fun q => hlr (by have := q.2; rw [Nat.add_sub_cancel, hr'] at this; exact this))]))
              clear hr'
              go_wp2_with fail
              go_quiet (fail)
              go_wp2_with fail
              go_roundw
              case rel => exact ⟨j + 1 + 1, by omega, by go_num, Lib.hid (HKN.out _), HN, Lib.hid (HBN.out _)⟩
              case measure => simp [intOf]; omega
        · have HF := Lib.hid (chk_hit HE.out hlt (show errC l i = 7 by unfold errC; rw [HC.out, if_neg (fun q => q HV.out), if_pos hsb]) (by decide))
          go_wp2_with fail
          go_ret
          exact ⟨by rw [HF.out]; rfl, HBB.out⟩
    · have HF := Lib.hid (show chkC l = 0 from fstC_zero fun j hj => HE.out j (by omega))
      have d1 : ¬ (i : Int) < (l.length : Int) := by omega
      go_wp2_with fail
      go_ret
      exact ⟨by rw [HF.out]; rfl, HB.out⟩

end Go.Proofs.YtcnhkoijphfibaaDoor
