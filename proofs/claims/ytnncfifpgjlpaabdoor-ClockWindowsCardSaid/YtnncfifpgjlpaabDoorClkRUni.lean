/-
  The contract of the specification's Union. Condition: at most 1000 windows.
-/
import Derived.Test.YtnncfifpgjlpaabDoorClkIns0
import Derived.StillTailTactics
set_option linter.unusedVariables false
set_option linter.unusedSimpArgs false
set_option linter.unnecessarySimpa false
namespace Go.Proofs.YtnncfifpgjlpaabDoor
open Go.RowKit Go.PlainAid

theorem ins_len (l : List Wn) (w : Wn) : (insW l w).length = l.length + 1 := by
  obtain ⟨k, hk, _, _, h⟩ := ins_split w l
  rw [h, List.length_append, List.length_take, List.length_cons, List.length_drop]; omega

set_option maxRecDepth 100000 in
set_option maxHeartbeats 4000000 in
theorem runion_s (po : Option Addr) (L cp : Nat) (ps : List Wn) (w : World) (h : WinsAt w po L cp ps) (hL : L ≤ 1000) :
    Calls Tryd.prog 25 #[.slice po L cp] w fun e w' =>
      ∃ ao n cap, e = .returned (.slice ao n cap) ∧ WinsAt w' ao n cap (unionW ps) ∧ Below w.heap.size w w' := by
  obtain ⟨h1, h2, h3, h4⟩ := h
  subst h1
  unfold maxLen at h3
  have H4 := Lib.hid h4; clear h4
  go_enter Tryd.func25, Tryd.ntmps25
  go_wp2
  go_loopw [3, 5] (fun av iv wr => ∃ (k n cap : Nat) (ao : Option Addr) (al : List Wn), k ≤ ps.length ∧ iv = .int .i64 k ∧ av = .slice ao n cap ∧ n ≤ k ∧ Hid (WinsAt wr ao n cap al) ∧ Hid (n = 0 → ao = none ∧ cap = 0) ∧ Hid (al = allW (ps.take k)) ∧ Hid (Below w.heap.size w wr)) (fun _ iv _ => ps.length - (intOf iv).toNat)
  case atStart => exact ⟨0, 0, 0, none, [], Nat.zero_le _, rfl, rfl, Nat.le_refl _, Lib.hid ⟨rfl, Nat.le_refl _, Nat.zero_le _, fun h => absurd h (Nat.lt_irrefl _)⟩, Lib.hid fun _ => ⟨rfl, rfl⟩, Lib.hid rfl, Lib.hid (Below.refl _ _)⟩
  case round =>
    obtain ⟨k, n, cap, ao, al, hk, rfl, rfl, hnk, HW, HZ, HA, HB⟩ := hrel
    have k0 : (0 : Int) ≤ (k : Int) := by omega
    by_cases hlt : k < ps.length
    · obtain ⟨b, off, rfl, hs⟩ := H4.out (by omega)
      obtain ⟨hc1, hc2⟩ := (hs.below HB.out hs.1).2 k hlt
      clear hs
      have HT := Lib.hid (show allW (ps.take (k + 1)) = if (wnAt ps k).1 < (wnAt ps k).2 then insW al (wnAt ps k) else al by rw [take_wn _ _ hlt, all_snoc, ← HA.out])
      obtain ⟨⟨x, y⟩, hxy⟩ : ∃ p, wnAt ps k = p := ⟨_, rfl⟩
      rw [hxy] at hc1 hc2 HT
      clear hxy
      simp only [] at hc1 hc2
      have k2 : (k : Int) < (ps.length : Int) := by omega
      by_cases hl : x < y
      · have HN := Lib.hid (show insW al (x, y) = allW (ps.take (k + 1)) by rw [HT.out, if_pos hl])
        go_wp2_with fail
        go_region_held3 (fun w' => w'.cell? ⟨b, off + k * 2, none⟩ = some (.int .i64 x) ∧ w'.cell? ⟨b, off + k * 2 + 1, none⟩ = some (.int .i64 y)) (go_keep) (fail)
        generalize hW1 : wr.drew = W1
        have HW1 : Hid (WinsAt W1 ao n cap al) := Lib.hid (by rw [← hW1]; exact HW.out)
        have HB1 : Hid (Below w.heap.size w W1) := Lib.hid (by rw [← hW1]; exact HB.out.drew)
        have d1 : W1.cell? ⟨b, off + k * 2, none⟩ = some (.int .i64 x) := by rw [← hW1]; exact hc1
        have d2 : W1.cell? ⟨b, off + k * 2 + 1, none⟩ = some (.int .i64 y) := by rw [← hW1]; exact hc2
        clear hW1
        go_wp2_with (go_at_call 35; refine (insert_s ao n cap al x y _ HW1.out (by omega) HZ.out).mono ?_; rintro e w2 ⟨bo, dap, rfl, hw2, hb2⟩)
        go_roundw
        case rel => exact ⟨k + 1, n + 1, dap, bo, insW al (x, y), by omega, by go_num, rfl, by omega, Lib.hid hw2, Lib.hid (fun h => absurd h (Nat.succ_ne_zero _)), HN, Lib.hid (HB1.out.trans (hb2.mono HB1.out.size))⟩
        case measure => simp [intOf]; omega
      · have HN := Lib.hid (show al = allW (ps.take (k + 1)) by rw [HT.out, if_neg hl])
        go_wp2_with fail
        go_region_held3 (fun w' => w'.cell? ⟨b, off + k * 2, none⟩ = some (.int .i64 x) ∧ w'.cell? ⟨b, off + k * 2 + 1, none⟩ = some (.int .i64 y)) (go_keep) (fail)
        go_wp2_with fail
        go_roundw
        case rel => exact ⟨k + 1, n, cap, ao, al, by omega, by go_num, rfl, by omega, Lib.hid HW.out, HZ, HN, Lib.hid HB.out.drew⟩
        case measure => simp [intOf]; omega
    · rename World => Z0
      obtain rfl : k = ps.length := by omega
      have HU := Lib.hid (show al = allW ps by rw [HA.out, List.take_length])
      clear HA
      have hcl := HW.out.2.2.1
      have hle := HW.out.2.1
      unfold maxLen at hcl
      have HL := Lib.hid HW.out.1
      have hn1 : n ≤ 1000 := by omega
      go_wp2_with fail
      go_loopw [4, 6] (fun ov iv W => ∃ (k m : Nat) (u : List Wn), k ≤ n ∧ iv = .int .i64 k ∧ m ≤ k ∧ Hid (W.ownsRow Z0.heap.size 27 2 ov m (wcells u)) ∧ Hid (u = mergeW (al.take k)) ∧ Hid (Below Z0.heap.size Z0 W)) (fun _ iv _ => n - (intOf iv).toNat)
      case atStart => exact ⟨0, 0, [], Nat.zero_le _, rfl, Nat.le_refl _, Lib.hid (World.ownsRow_nil _ _ _ _), Lib.hid rfl, Lib.hid (Below.refl _ _)⟩
      case round =>
        obtain ⟨k, m, u, hk, rfl, hmk, HO, HM, HW2⟩ := hrel
        have k0 : (0 : Int) ≤ (k : Int) := by omega
        by_cases hlt : k < n
        · obtain ⟨b, off, rfl, hs⟩ := HW.out.2.2.2 (by omega)
          have HS := Lib.hid hs
          obtain ⟨hc1, hc2⟩ := (hs.below HW2.out hs.1).2 k (by have := HL.out; omega)
          clear hs
          have HT := Lib.hid (show mergeW (al.take (k + 1)) = putW u (wnAt al k) by rw [take_wn _ _ (by have := HL.out; omega), merge_snoc, ← HM.out])
          obtain ⟨⟨x, y⟩, hxy⟩ : ∃ p, wnAt al k = p := ⟨_, rfl⟩
          rw [hxy] at hc1 hc2 HT
          have HXY := Lib.hid hxy
          clear hxy
          simp only [] at hc1 hc2
          have k2 : (k : Int) < (n : Int) := by omega
          have hul := own_len HO.out
          obtain ⟨bo, dap, rfl, hwo, hbz, _⟩ := wins_of_owns HO.out
          rcases Nat.eq_zero_or_pos m with hm0 | hm0
          · subst hm0
            have hu0 : u = [] := List.length_eq_zero_iff.1 hul
            have HN := Lib.hid (show [(x, y)] = mergeW (al.take (k + 1)) by rw [HT.out, hu0]; rfl)
            clear hul hwo hbz
            go_wp2_with fail
            go_quiet (fail)
            generalize hW1 : World.drewN wr _ = W1
            have HB1 : Hid (Below Z0.heap.size Z0 W1) := Lib.hid (by rw [← hW1]; exact HW2.out.trans ⟨rfl, rfl, rfl, Nat.le_refl _, fun _ _ => rfl⟩)
            have HO1 : Hid (W1.ownsRow Z0.heap.size 27 2 (.slice bo 0 dap) 0 (wcells [])) := Lib.hid (by rw [← hW1, ← hu0]; exact HO.out)
            have d1 : W1.cell? ⟨b, off + k * 2, none⟩ = some (.int .i64 x) := by rw [← hW1]; exact hc1
            have d2 : W1.cell? ⟨b, off + k * 2 + 1, none⟩ = some (.int .i64 y) := by rw [← hW1]; exact hc2
            clear hW1 hu0
            go_wp2_with (at_builtin; refine app_wins (W1.alloc _) (HO1.out.alloc _) (.tmp 70) (.tmp 75) (some ⟨W1.heap.size, 0, none⟩) 1 1 [(x, y)] ?_ ?_ ?_ ?_ ?_ ?_ ?_ ?_ ?_; exact rfl; exact rfl; exact rfl; exact rfl; exact (wins_new W1 (x, y)); (intro e; cases e); exact (by omega); (show Z0.heap.size ≤ (W1.heap.push _).size; simp; have := HB1.out.size; omega); intro v3 W3 hown3 hb3; have hB3 := (HB1.out.alloc HB1.out.size _).trans hb3)
            rw [← wcells_append, List.nil_append] at hown3
            go_roundw
            case rel => exact ⟨k + 1, 0 + 1, [(x, y)], by omega, by go_num, by omega, Lib.hid hown3, HN, Lib.hid hB3⟩
            case measure => simp [intOf]; omega
          · obtain ⟨g, gc, hv, hgb, hgs, hmc, hmx⟩ := own_form HO.out hm0
            cases hv
            clear hwo hbz
            obtain ⟨j, rfl⟩ : ∃ j, m = j + 1 := ⟨m - 1, by omega⟩
            obtain ⟨hz1, hz2⟩ := own_cellsAt HO.out j (by omega)
            have HP := Lib.hid (show putW u (x, y) = if (wnAt u j).2 < x then u ++ [(x, y)] else u.set j ((wnAt u j).1, max (wnAt u j).2 y) by
              rw [put_step, if_neg (fun e => by rw [e] at hul; cases hul), hul, Nat.add_sub_cancel])
            obtain ⟨z, hz⟩ : ∃ z, (wnAt u j).2 = z := ⟨_, rfl⟩
            rw [hz] at hz2 HP
            clear hz
            obtain ⟨z0, hz0⟩ : ∃ z, (wnAt u j).1 = z := ⟨_, rfl⟩
            rw [hz0] at hz1
            have e1 : (0 : Int) ≤ (j : Int) := by omega
            have e2 : (j : Int) < ((j + 1 : Nat) : Int) := by omega
            have e3 : (j : Int) < (j : Int) + 1 := by omega
            by_cases hzx : z < x
            · have HN := Lib.hid (show u ++ [(x, y)] = mergeW (al.take (k + 1)) by rw [HT.out, HP.out, if_pos hzx])
              have hnx : ¬ x ≤ z := by omega
              clear hul
              go_wp2_with fail
              go_region_held3 (fun w' => w'.cell? ⟨b, off + k * 2, none⟩ = some (.int .i64 x) ∧ w'.cell? ⟨b, off + k * 2 + 1, none⟩ = some (.int .i64 y) ∧ w'.cell? ⟨g, j * 2, none⟩ = some (.int .i64 z0) ∧ w'.cell? ⟨g, j * 2 + 1, none⟩ = some (.int .i64 z)) (go_keep) (fail)
              generalize hW1 : World.drew wr = W1
              have HB1 : Hid (Below Z0.heap.size Z0 W1) := Lib.hid (by rw [← hW1]; exact HW2.out.drew)
              have HO1 : Hid (W1.ownsRow Z0.heap.size 27 2 (.slice (some ⟨g, 0, none⟩) (j + 1) dap) (j + 1) (wcells u)) := Lib.hid (by rw [← hW1]; exact HO.out.drew)
              have d1 : W1.cell? ⟨b, off + k * 2, none⟩ = some (.int .i64 x) := by rw [← hW1]; exact hc1
              have d2 : W1.cell? ⟨b, off + k * 2 + 1, none⟩ = some (.int .i64 y) := by rw [← hW1]; exact hc2
              have d3 : W1.cell? ⟨g, j * 2, none⟩ = some (.int .i64 z0) := by rw [← hW1]; exact hz1
              have d4 : W1.cell? ⟨g, j * 2 + 1, none⟩ = some (.int .i64 z) := by rw [← hW1]; exact hz2
              clear hW1
              go_wp2_with (at_builtin; refine app_wins (W1.alloc _) (HO1.out.alloc _) (.tmp 70) (.tmp 75) (some ⟨W1.heap.size, 0, none⟩) 1 1 [(x, y)] ?_ ?_ ?_ ?_ ?_ ?_ ?_ ?_ ?_; exact rfl; exact rfl; exact rfl; exact rfl; exact (wins_new W1 (x, y)); (intro e; cases e); exact (by omega); (show Z0.heap.size ≤ (W1.heap.push _).size; simp; have := HB1.out.size; omega); intro v3 W3 hown3 hb3; have hB3 := (HB1.out.alloc HB1.out.size _).trans hb3)
              rw [← wcells_append] at hown3
              go_roundw
              case rel => exact ⟨k + 1, j + 1 + 1, u ++ [(x, y)], by omega, by go_num, by omega, Lib.hid hown3, HN, Lib.hid hB3⟩
              case measure => simp [intOf]; omega
            · have HN := Lib.hid (show u.set j (z0, max z y) = mergeW (al.take (k + 1)) by rw [HT.out, HP.out, if_neg hzx, hz0])
              have hxz : x ≤ z := by omega
              have HUL := Lib.hid hul
              have HZ0 := Lib.hid hz0
              clear hul hz0
              go_wp2_with fail
              go_region_held3 (fun w' => w'.cell? ⟨b, off + k * 2, none⟩ = some (.int .i64 x) ∧ w'.cell? ⟨b, off + k * 2 + 1, none⟩ = some (.int .i64 y) ∧ w'.cell? ⟨g, j * 2, none⟩ = some (.int .i64 z0) ∧ w'.cell? ⟨g, j * 2 + 1, none⟩ = some (.int .i64 z)) (go_keep) (fail)
              generalize hW1 : World.drew wr = W1
              have HB1 : Hid (Below Z0.heap.size Z0 W1) := Lib.hid (by rw [← hW1]; exact HW2.out.drew)
              have HO1 : Hid (W1.ownsRow Z0.heap.size 27 2 (.slice (some ⟨g, 0, none⟩) (j + 1) dap) (j + 1) (wcells u)) := Lib.hid (by rw [← hW1]; exact HO.out.drew)
              have d1 : W1.cell? ⟨b, off + k * 2, none⟩ = some (.int .i64 x) := by rw [← hW1]; exact hc1
              have d2 : W1.cell? ⟨b, off + k * 2 + 1, none⟩ = some (.int .i64 y) := by rw [← hW1]; exact hc2
              have d3 : W1.cell? ⟨g, j * 2, none⟩ = some (.int .i64 z0) := by rw [← hW1]; exact hz1
              have d4 : W1.cell? ⟨g, j * 2 + 1, none⟩ = some (.int .i64 z) := by rw [← hW1]; exact hz2
              clear hW1
              have f4 : W1.frozen? ⟨g, j * 2 + 1, none⟩ = false := HO1.out.frozenAt _
              obtain ⟨mx, hmx2⟩ : ∃ q, max z y = q := ⟨_, rfl⟩
              rw [hmx2] at HN
              go_wp2_with fail
              refine wp_region_still_tail 15 (by kernel_rfl) (by kernel_rfl) ?_
              simp only [List.take_succ_cons, List.take_zero, List.drop_succ_cons, List.drop_zero]
              repeat still_step
              refine wpStill_nil ?_
              go_wp2_with fail
              go_roundw
              case rel => exact ⟨k + 1, j + 1, u.set j (z0, mx), by omega, by go_num, by omega, Lib.hid (by
                have := own_until HO1.out.drew j (by have := HUL.out; omega) mx
                rw [HZ0.out] at this; exact this), HN, Lib.hid (HB1.out.drew.setCell (p := ⟨g, j * 2 + 1, none⟩) hgb _)⟩
              case measure => simp [intOf]; omega
        · have hkn : k = n := by omega
          have HU2 := Lib.hid (show u = unionW ps by rw [HM.out, hkn, List.take_of_length_le (by have := HL.out; omega), HU.out]; rfl)
          obtain ⟨bo, dap, rfl, hwo, hbz, _⟩ := wins_of_owns HO.out
          have HWO := Lib.hid hwo
          clear hwo hbz hkn
          go_wp2_with fail
          go_ret
          exact ⟨bo, m, dap, rfl, by rw [← HU2.out]; exact HWO.out, HB.out.trans (HW2.out.mono HB.out.size)⟩

end Go.Proofs.YtnncfifpgjlpaabDoor
