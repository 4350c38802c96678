/-
  The contract of slices.DeleteFunc at windows and clock's empty, over a row of the caller's own. Condition: at most 1000 windows.
-/
import Derived.Test.YtnncfifpgjlpaabDoorClkAsc
import Derived.Lib.LazyBuf
set_option linter.unusedVariables false
set_option linter.unusedSimpArgs false
set_option linter.unnecessarySimpa false
namespace Go.Proofs.YtnncfifpgjlpaabDoor
open Go.RowKit Go.PlainAid Go.Shelf

theorem wnAt_set (u : List Wn) (i j : Nat) (p : Wn) (h : i < u.length) : wnAt (u.set i p) j = if j = i then p else wnAt u j := by
  unfold wnAt
  rw [List.getD_eq_getElem?_getD, List.getD_eq_getElem?_getD, List.getElem?_set]
  by_cases e : i = j
  · subst e; rw [if_pos rfl, if_pos h, if_pos rfl]; rfl
  · rw [if_neg e, if_neg (fun x => e x.symm)]
theorem take_set_snoc (u : List Wn) (i : Nat) (p : Wn) (h : i < u.length) : (u.set i p).take (i + 1) = u.take i ++ [p] := by
  rw [take_wn _ _ (by rw [List.length_set]; exact h), wnAt_set _ _ _ _ h, if_pos rfl, List.take_set_of_le (Nat.le_refl _)]
theorem filter_snoc (l : List Wn) (p : Wn) : (l ++ [p]).filter keepB = if emptyB p then l.filter keepB else l.filter keepB ++ [p] := by
  rw [List.filter_append]
  unfold keepB
  cases h : emptyB p
  · simp [h]
  · simp [h]

theorem cells_box (w : World) (x y : Int) : (w.alloc (.cells #[.int .i64 x, .int .i64 y] 27)).cell? ⟨w.heap.size, 0, none⟩ = some (.int .i64 x) ∧ (w.alloc (.cells #[.int .i64 x, .int .i64 y] 27)).cell? ⟨w.heap.size, 1, none⟩ = some (.int .i64 y) := by
  obtain ⟨b, off, e, h⟩ := (wins_new w (x, y)).2.2.2 (by omega)
  cases e
  exact h.2 0 (by show 0 < 1; omega)
set_option maxRecDepth 100000 in
set_option maxHeartbeats 4000000 in
theorem delete_own (w : World) (base g n cap : Nat) (zs : List Wn) (h : w.ownsRow base 27 2 (.slice (some ⟨g, 0, none⟩) n cap) n (wcells zs)) (hn : n ≤ 1000) (hbase : base ≤ g) :
    Calls Tryd.prog 45 #[.slice (some ⟨g, 0, none⟩) n cap, .func (.func 33) #[] #[]] w fun e w' =>
      ∃ m, e = .returned (.slice (some ⟨g, 0, none⟩) m cap) ∧ m ≤ n ∧ w'.ownsRow base 27 2 (.slice (some ⟨g, 0, none⟩) m cap) m (wcells (zs.filter keepB)) ∧ Below base w w' := by
  have hl := own_len h
  have hg := (h.lt g rfl).2
  have hcap : n ≤ cap ∧ cap ≤ maxLen := by
    obtain ⟨_, ⟨he, _⟩ | ⟨g', cap', cur, he, _, _, h4, h5, _⟩⟩ := h
    · cases he
    · cases he; exact ⟨h4, h5⟩
  have hI := index_own w base g n cap zs h hn
  have HL := Lib.hid hl
  rcases first_hit (fun j => emptyB (wnAt zs j)) n with hall | ⟨k0, hk0, hhit, hmiss⟩
  · have e1 : Lib.idxBy (fun _ y => emptyB y) (zs.take n) default = -1 := Lib.idxBy_miss _ zs n default (fun j hj => by rw [get_wn]; exact hall j hj)
    rw [e1] at hI
    have HF := Lib.hid (show zs.filter keepB = zs by
      rw [List.filter_eq_self]
      intro p hp
      obtain ⟨j, hj, rfl⟩ := List.getElem_of_mem hp
      have := hall j (by omega)
      unfold wnAt at this
      rw [List.getD_eq_getElem?_getD, List.getElem?_eq_getElem hj] at this
      unfold keepB
      rw [show emptyB zs[j] = false from this]; rfl)
    have HI := Lib.hid hI
    have H := Lib.hid h
    clear h hI e1 hall hl
    go_enter Tryd.func45, Tryd.ntmps45
    go_wp2_with fail
    refine HI.out.mono ?_
    rintro e w1 ⟨rfl, hb⟩
    go_wp2_with fail
    go_ret
    refine ⟨n, rfl, Nat.le_refl _, ?_, hb.mono (by omega)⟩
    rw [HF.out]
    obtain ⟨h1, ⟨he, _⟩ | ⟨g', cap', cur, he, h2, h3, h4, h5, h6⟩⟩ := H.out
    · cases he
    · cases he
      exact ⟨h1, .inr ⟨g, cap, cur, rfl, h2, by rw [hb.block g hg]; exact h3, h4, h5, h6⟩⟩
  · have e1 : Lib.idxBy (fun _ y => emptyB y) (zs.take n) default = (k0 : Int) := Lib.idxBy_hit _ zs n k0 default hk0 (by omega) (by rw [get_wn]; exact hhit) (fun j hj => by rw [get_wn]; exact hmiss j hj)
    rw [e1] at hI
    have HF := Lib.hid (show zs.take k0 = (zs.take (k0 + 1)).filter keepB by
      rw [take_wn _ _ (by omega), filter_snoc, if_pos hhit, eq_comm, List.filter_eq_self]
      intro p hp
      obtain ⟨j, hj, rfl⟩ := List.getElem_of_mem hp
      rw [List.length_take] at hj
      have := hmiss j (by omega)
      unfold wnAt at this
      rw [List.getD_eq_getElem?_getD, List.getElem?_eq_getElem (by omega)] at this
      unfold keepB
      rw [List.getElem_take, show emptyB zs[j] = false from this]; rfl)
    have HI := Lib.hid hI
    have H := Lib.hid h
    have hne1 : ((k0 : Int) == -1) = false := beq_eq_false_iff_ne.2 (by omega)
    clear h hI e1 hhit hmiss hl
    go_enter Tryd.func45, Tryd.ntmps45
    go_wp2_with fail
    refine HI.out.mono ?_
    rintro e w1 ⟨rfl, hb⟩
    have HB1 := Lib.hid (hb.mono (show base ≤ w.heap.size by omega))
    have HO1 : Hid (w1.ownsRow base 27 2 (.slice (some ⟨g, 0, none⟩) n cap) n (wcells zs)) := Lib.hid (by
      obtain ⟨h1, ⟨he, _⟩ | ⟨g', cap', cur, he, h2, h3, h4, h5, h6⟩⟩ := H.out
      · cases he
      · cases he
        exact ⟨h1, .inr ⟨g, cap, cur, rfl, h2, by rw [hb.block g hg]; exact h3, h4, h5, h6⟩⟩)
    clear hb H
    go_wp2_with fail
    go_loopw [5, 6] (fun iv jv wr => ∃ (i j : Nat) (u : List Wn), iv = .int .i64 i ∧ jv = .int .i64 j ∧ i < j ∧ j ≤ n ∧ Hid (wr.ownsRow base 27 2 (.slice (some ⟨g, 0, none⟩) n cap) n (wcells u)) ∧ Hid (u.take i = (zs.take j).filter keepB) ∧ Hid (∀ x, j ≤ x → wnAt u x = wnAt zs x) ∧ Hid (Below base w wr)) (fun _ jv _ => n - (intOf jv).toNat)
    case atStart => exact ⟨k0, k0 + 1, zs, rfl, by go_num, by omega, by omega, HO1, HF, Lib.hid fun _ _ => rfl, HB1⟩
    case round =>
      obtain ⟨i, j, u, rfl, rfl, hij, hjn, HO, HT, HR, HB⟩ := hrel
      have j0 : (0 : Int) ≤ (j : Int) := by omega
      have i0 : (0 : Int) ≤ (i : Int) := by omega
      have i1 : (i : Int) < (n : Int) := by omega
      have HUL := Lib.hid (own_len HO.out)
      by_cases hlt : j < n
      · have j1 : (j : Int) < (n : Int) := by omega
        obtain ⟨⟨x, y⟩, hxy⟩ : ∃ p, wnAt u j = p := ⟨_, rfl⟩
        obtain ⟨c1, c2⟩ := own_cellsAt HO.out j hlt
        rw [hxy] at c1 c2
        simp only [] at c1 c2
        have HXY := Lib.hid hxy
        clear hxy
        have HFN := Lib.hid (show (zs.take (j + 1)).filter keepB = if emptyB (x, y) then u.take i else u.take i ++ [(x, y)] by
          rw [take_wn _ _ (by have := HL.out; omega), filter_snoc, ← HT.out, ← HR.out j (Nat.le_refl _), HXY.out])
        go_wp2_with fail
        refine (empty_s x y _).mono ?_
        rintro e w2 ⟨rfl, hw2⟩
        have HO2 : Hid (w2.ownsRow base 27 2 (.slice (some ⟨g, 0, none⟩) n cap) n (wcells u)) := Lib.hid (by rw [hw2]; exact (HO.out.alloc _).alloc _)
        have HB2 : Hid (Below base w w2) := Lib.hid (by
          have hz := HB.out.size
          rw [hw2]; exact (HB.out.alloc (by omega) _).alloc (by simp; omega) _)
        have hbx := cells_box wr x y
        have d1 : w2.cell? ⟨wr.heap.size, 0, none⟩ = some (.int .i64 x) := by rw [hw2]; exact Lib.cell?_alloc_some _ hbx.1
        have d2 : w2.cell? ⟨wr.heap.size, 1, none⟩ = some (.int .i64 y) := by rw [hw2]; exact Lib.cell?_alloc_some _ hbx.2
        clear hw2 hbx c1 c2
        by_cases hyx : y ≤ x
        · have hd : decide (y ≤ x) = true := decide_eq_true hyx
          have HN := Lib.hid (show u.take i = (zs.take (j + 1)).filter keepB by rw [HFN.out, if_pos (show emptyB (x, y) = true from hd)])
          clear hyx
          go_wp2_with fail
          go_roundw
          case rel => exact ⟨i, j + 1, u, rfl, by go_num, by omega, by omega, HO2, HN, Lib.hid fun z hz => HR.out z (by omega), HB2⟩
          case measure => simp [intOf]; omega
        · have hd : decide (y ≤ x) = false := decide_eq_false hyx
          have HN := Lib.hid (show (u.set i (x, y)).take (i + 1) = (zs.take (j + 1)).filter keepB by
            rw [HFN.out, if_neg (by rw [show emptyB (x, y) = false from hd]; decide), take_set_snoc _ _ _ (by have := HUL.out; omega)])
          clear hyx
          obtain ⟨e1, e2⟩ := own_cellsAt HO2.out i (by omega)
          have f1 : w2.frozen? ⟨g, i * 2, none⟩ = false := HO2.out.frozenAt _
          have f2 : w2.frozen? ⟨g, i * 2 + 1, none⟩ = false := HO2.out.frozenAt _
          go_wp2_with fail
          go_roundw
          case rel => exact ⟨i + 1, j + 1, u.set i (x, y), by go_num, by go_num, by omega, by omega, Lib.hid (by
            rw [wcells_set u i (x, y) (by have := HUL.out; omega)]
            exact ((HO2.out.stored (i * 2) (.int .i64 x)).1.stored (i * 2 + 1) (.int .i64 y)).1), HN, Lib.hid (fun z hz => by
            rw [wnAt_set _ _ _ _ (by have := HUL.out; omega), if_neg (by omega)]
            exact HR.out z (by omega)), Lib.hid ((HB2.out.setCell (p := ⟨g, i * 2, none⟩) hbase _).setCell (p := ⟨g, i * 2 + 1, none⟩) hbase _)⟩
          case measure => simp [intOf]; omega
      · obtain rfl : j = n := by omega
        have HFI := Lib.hid (show u.take i = zs.filter keepB by rw [HT.out, List.take_of_length_le (by have := HL.out; omega)])
        obtain ⟨hc1, hc2⟩ := hcap
        have hcl := fun ty => run_clear_wins wr ty g (0 + i * 2) (j - i) (cap - i) (by omega) (fun z hz => by
          have hk := own_cellsAt HO.out (i + z / 2) (by omega)
          rcases Nat.mod_two_eq_zero_or_one z with e | e
          · rw [show 0 + i * 2 + z = (i + z / 2) * 2 by omega, hk.1]; rfl
          · rw [show 0 + i * 2 + z = (i + z / 2) * 2 + 1 by omega, hk.2]; rfl) (fun z hz => HO.out.frozenAt _)
        unfold maxLen at hc2
        have k1 : (i : Int) ≤ (j : Int) := by omega
        have k2 : (i : Int) ≤ (cap : Int) := by omega
        have k3 : (i : Int) < (cap : Int) := by omega
        rw [Nat.zero_add] at hcl
        have HOZ := Lib.hid (own_setCells (List.replicate ((j - i) * 2) (.int .i64 0)) wr (i * 2) (wcells u) HO.out)
        have HBZ := Lib.hid (Go.below_setCells hbase (List.replicate ((j - i) * 2) (.int .i64 0)) (i * 2) wr HB.out)
        go_wp2_with fail
        go_ret
        obtain ⟨ys, h1, h2⟩ := HOZ.out
        have h3 := own_cut h1 i (by omega)
        rw [h2 (i * 2) (Nat.le_refl _), wcells_take, HFI.out] at h3
        exact ⟨i, rfl, by omega, h3, HBZ.out⟩

end Go.Proofs.YtnncfifpgjlpaabDoor
