/-
  Texts of the schema layer and of those beneath it, joined: ClkUni, AttL, AttFrame, SchStrs, AttIns, ShelfS. Conditions stand at each contract.
-/
import Derived.StillTailTactics
import Derived.Lib.Bytealg
import Derived.WalkKit
import Derived.ProofKit
import Derived.OpenShut
import Derived.SliceStrings
import Derived.Deep.RegionHeld3
import Derived.Deep.AppendLies
import Derived.Shelf.Strings.Builder1
import Derived.Shelf.Strings.OnBuilder
import Derived.Shelf.Strings.Split
import Derived.Test.YtgepcbggkfjlgaaGreatDoorRows
import Derived.Test.YtgepcbggkfjlgaaGreatDoorProg
import Derived.Test.YtgepcbggkfjlgaaGreatDoorM01
import Derived.Test.YtgepcbggkfjlgaaGreatDoorM04
import Derived.Test.YtgepcbggkfjlgaaGreatDoorM05

section
/-
  The contract of clock.Union. Condition: at most 1000 windows.
-/
set_option maxRecDepth 100000
set_option linter.unusedVariables false
set_option linter.unusedSimpArgs false
set_option linter.unnecessarySimpa false
namespace Go.Proofs.YtgepcbggkfjlgaaGreatDoor
open Go.RowKit Go.PlainAid

set_option maxRecDepth 100000 in
set_option maxHeartbeats 4000000 in
theorem union_f (po : Option Addr) (L cp : Nat) (ps : List Wn) (w : World) (h : WinsAt w po L cp ps) (hL : L ≤ 1000) (h0 : po = none → L = 0 ∧ cp = 0) :
    Calls Tryz.prog 58 #[.slice po L cp] w fun e w' =>
      ∃ ao n cap, e = .returned (.slice ao n cap) ∧ WinsAt w' ao n cap (unionW ps) ∧ Below w.heap.size w w' ∧ ∀ b off, ao = some ⟨b, off, none⟩ → w.heap.size ≤ b := by
  have HPL := Lib.hid h.1
  have H := Lib.hid h
  have H0 := Lib.hid h0
  clear h h0
  go_enter Tryz.func58, Tryz.ntmps58
  go_wp2_with fail
  refine (asc_s po L cp ps _ H.out hL H0.out).mono ?_
  rintro e Z0 ⟨ao, n, cap, al, rfl, hW, hA, hB⟩
  have HW := Lib.hid hW
  have HL := Lib.hid hW.1
  have hcl := hW.2.2.1
  have hle := hW.2.1
  unfold maxLen at hcl
  have hn1 : n ≤ 1000 := by have := HL.out; have := HPL.out; have := hA.2.2.2; omega
  have HB := Lib.hid hB
  have HU := Lib.hid (show mergeW al = unionW ps from merge_union ps al hA.1 hA.2.1 hA.2.2.1)
  clear hW hA hB H H0
  go_wp2_with fail
  go_loopw [3, 10] (fun ov iv W => ∃ (k m : Nat) (u : List Wn), k ≤ n ∧ iv = .int .i64 k ∧ m ≤ k ∧ Hid (W.ownsRow Z0.heap.size 29 2 ov m (wcells u)) ∧ Hid (u = mergeW (al.take k)) ∧ Hid (Below Z0.heap.size Z0 W)) (fun _ iv _ => n - (intOf iv).toNat)
  case atStart => exact ⟨0, 0, [], Nat.zero_le _, rfl, Nat.le_refl _, Lib.hid (World.ownsRow_nil _ _ _ _), Lib.hid rfl, Lib.hid (Below.refl _ _)⟩
  case round =>
    obtain ⟨k, m, u, hk, rfl, hmk, HO, HM, HW2⟩ := hrel
    have k0 : (0 : Int) ≤ (k : Int) := by omega
    by_cases hlt : k < n
    · obtain ⟨b, off, rfl, hs⟩ := HW.out.2.2.2 (by omega)
      obtain ⟨hc1, hc2⟩ := (hs.below HW2.out hs.1).2 k (by have := HL.out; omega)
      clear hs
      have HT := Lib.hid (show mergeW (al.take (k + 1)) = putW u (wnAt al k) by rw [take_wn _ _ (by have := HL.out; omega), merge_snoc, ← HM.out])
      obtain ⟨⟨x, y⟩, hxy⟩ : ∃ p, wnAt al k = p := ⟨_, rfl⟩
      rw [hxy] at hc1 hc2 HT
      have HXY := Lib.hid hxy
      clear hxy
      simp only [] at hc1 hc2
      have k2 : (k : Int) < (n : Int) := by omega
      have hul := own_len HO.out
      have HOA := Lib.hid (HO.out.alloc (.cells #[.int .i64 x, .int .i64 y] 29))
      have HBA := Lib.hid (HW2.out.alloc HW2.out.size (.cells #[.int .i64 x, .int .i64 y] 29))
      have hbx := cells_box wr x y
      obtain ⟨bo, dap, rfl, hwo, hbz, _⟩ := wins_of_owns HO.out
      rcases Nat.eq_zero_or_pos m with hm0 | hm0
      · subst hm0
        have hu0 : u = [] := List.length_eq_zero_iff.1 hul
        have HN := Lib.hid (show [(x, y)] = mergeW (al.take (k + 1)) by rw [HT.out, hu0]; rfl)
        clear hul hwo hbz
        go_wp2_with fail
        go_quiet (fail)
        generalize hW1 : World.drewN (wr.alloc _) _ = W1
        have HB1 : Hid (Below Z0.heap.size Z0 W1) := Lib.hid (by rw [← hW1]; exact HBA.out.trans ⟨rfl, rfl, rfl, Nat.le_refl _, fun _ _ => rfl⟩)
        have HO1 : Hid (W1.ownsRow Z0.heap.size 29 2 (.slice bo 0 dap) 0 (wcells [])) := Lib.hid (by rw [← hW1, ← hu0]; exact HOA.out)
        have d1 : W1.cell? ⟨wr.heap.size, 0, none⟩ = some (.int .i64 x) := by rw [← hW1]; exact hbx.1
        have d2 : W1.cell? ⟨wr.heap.size, 1, none⟩ = some (.int .i64 y) := by rw [← hW1]; exact hbx.2
        clear hW1 hu0 hbx
        go_wp2_with (at_builtin; refine app_wins (W1.alloc _) (HO1.out.alloc _) (.tmp 29) (.tmp 31) (some ⟨W1.heap.size, 0, none⟩) 1 1 [(x, y)] ?_ ?_ ?_ ?_ ?_ ?_ ?_ ?_ ?_; exact rfl; exact rfl; exact rfl; exact rfl; exact (wins_new W1 (x, y)); (intro e; cases e); exact (by omega); (show Z0.heap.size ≤ (W1.heap.push _).size; simp; have := HB1.out.size; omega); intro v3 W3 hown3 hb3; have hB3 := (HB1.out.alloc HB1.out.size _).trans hb3)
        rw [← wcells_append, List.nil_append] at hown3
        go_roundw
        case rel => exact ⟨k + 1, 0 + 1, [(x, y)], by omega, by go_num, by omega, Lib.hid hown3, HN, Lib.hid hB3⟩
        case measure => simp [intOf]; omega
      · obtain ⟨g, gc, hv, hgb, hgs, hmc, hmx⟩ := own_form HO.out hm0
        cases hv
        clear hwo hbz
        obtain ⟨j, rfl⟩ : ∃ j, m = j + 1 := ⟨m - 1, by omega⟩
        have HP := Lib.hid (show putW u (x, y) = if (wnAt u j).2 < x then u ++ [(x, y)] else u.set j ((wnAt u j).1, max (wnAt u j).2 y) by
          rw [put_step, if_neg (fun e => by rw [e] at hul; cases hul), hul, Nat.add_sub_cancel])
        obtain ⟨z, hz⟩ : ∃ z, (wnAt u j).2 = z := ⟨_, rfl⟩
        obtain ⟨z0, hz0⟩ : ∃ z, (wnAt u j).1 = z := ⟨_, rfl⟩
        obtain ⟨hz1, hz2⟩ := own_cellsAt HOA.out j (by omega)
        rw [hz] at hz2 HP
        rw [hz0] at hz1
        clear hz
        have HZ0 := Lib.hid hz0
        clear hz0
        have HUL := Lib.hid hul
        clear hul
        have e1 : (0 : Int) ≤ (j : Int) := by omega
        have e2 : (j : Int) < ((j + 1 : Nat) : Int) := by omega
        have e3 : (j : Int) < (j : Int) + 1 := by omega
        have w1 : IntKind.i64.wrap (((j + 1 : Nat) : Int) - 1) = (j : Int) := by rw [IntWalk.i64_in _ (by omega)]; omega
        have w2 : IntKind.i64.wrap ((j : Int) + 1 - 1) = (j : Int) := by rw [IntWalk.i64_in _ (by omega)]; omega
        have w3 : IntKind.i64.wrap (j : Int) = (j : Int) := IntWalk.i64_in _ (by omega)
        generalize hWA : wr.alloc (.cells #[.int .i64 x, .int .i64 y] 29) = WA at HOA HBA hbx hz1 hz2
        obtain ⟨hx1, hx2⟩ := hbx
        have HSZ := Lib.hid hWA
        by_cases hzx : z < x
        · have HN := Lib.hid (show u ++ [(x, y)] = mergeW (al.take (k + 1)) by rw [HT.out, HP.out, if_pos hzx])
          go_wp2_with fail
          clear hWA
          go_region_held3 (fun w' => w'.cell? ⟨wr.heap.size, 0, none⟩ = some (.int .i64 x) ∧ w'.cell? ⟨wr.heap.size, 1, none⟩ = some (.int .i64 y) ∧ w'.cell? ⟨g, j * 2, none⟩ = some (.int .i64 z0) ∧ w'.cell? ⟨g, j * 2 + 1, none⟩ = some (.int .i64 z)) (go_keep) (fail)
          generalize hW1 : World.drew WA = W1
          have HB1 : Hid (Below Z0.heap.size Z0 W1) := Lib.hid (by rw [← hW1]; exact HBA.out.drew)
          have HO1 : Hid (W1.ownsRow Z0.heap.size 29 2 (.slice (some ⟨g, 0, none⟩) (j + 1) dap) (j + 1) (wcells u)) := Lib.hid (by rw [← hW1]; exact HOA.out.drew)
          have d1 : W1.cell? ⟨wr.heap.size, 0, none⟩ = some (.int .i64 x) := by rw [← hW1]; exact hx1
          have d2 : W1.cell? ⟨wr.heap.size, 1, none⟩ = some (.int .i64 y) := by rw [← hW1]; exact hx2
          have d3 : W1.cell? ⟨g, j * 2, none⟩ = some (.int .i64 z0) := by rw [← hW1]; exact hz1
          have d4 : W1.cell? ⟨g, j * 2 + 1, none⟩ = some (.int .i64 z) := by rw [← hW1]; exact hz2
          clear hW1
          go_wp2_with (at_builtin; refine app_wins (W1.alloc _) (HO1.out.alloc _) (.tmp 29) (.tmp 31) (some ⟨W1.heap.size, 0, none⟩) 1 1 [(x, y)] ?_ ?_ ?_ ?_ ?_ ?_ ?_ ?_ ?_; exact rfl; exact rfl; exact rfl; exact rfl; exact (wins_new W1 (x, y)); (intro e; cases e); exact (by omega); (show Z0.heap.size ≤ (W1.heap.push _).size; simp; have := HB1.out.size; omega); intro v3 W3 hown3 hb3; have hB3 := (HB1.out.alloc HB1.out.size _).trans hb3)
          rw [← wcells_append] at hown3
          go_roundw
          case rel => exact ⟨k + 1, j + 1 + 1, u ++ [(x, y)], by omega, by go_num, by omega, Lib.hid hown3, HN, Lib.hid hB3⟩
          case measure => simp [intOf]; omega
        · have HN := Lib.hid (show u.set j (z0, max z y) = mergeW (al.take (k + 1)) by rw [HT.out, HP.out, if_neg hzx, HZ0.out])
          have hdz : decide (z < x) = false := decide_eq_false hzx
          have hjb : ((((j + 1 : Nat) : Int)) == 0) = false := beq_false_of_ne (by omega)
          go_wp2_with fail
          clear hWA
          go_region_held3 (fun w' => w'.cell? ⟨wr.heap.size, 0, none⟩ = some (.int .i64 x) ∧ w'.cell? ⟨wr.heap.size, 1, none⟩ = some (.int .i64 y) ∧ w'.cell? ⟨g, j * 2, none⟩ = some (.int .i64 z0) ∧ w'.cell? ⟨g, j * 2 + 1, none⟩ = some (.int .i64 z)) (go_keep) (fail)
          generalize hW1 : World.drew WA = W1
          have HB1 : Hid (Below Z0.heap.size Z0 W1) := Lib.hid (by rw [← hW1]; exact HBA.out.drew)
          have HO1 : Hid (W1.ownsRow Z0.heap.size 29 2 (.slice (some ⟨g, 0, none⟩) (j + 1) dap) (j + 1) (wcells u)) := Lib.hid (by rw [← hW1]; exact HOA.out.drew)
          have d1 : W1.cell? ⟨wr.heap.size, 0, none⟩ = some (.int .i64 x) := by rw [← hW1]; exact hx1
          have d2 : W1.cell? ⟨wr.heap.size, 1, none⟩ = some (.int .i64 y) := by rw [← hW1]; exact hx2
          have d3 : W1.cell? ⟨g, j * 2, none⟩ = some (.int .i64 z0) := by rw [← hW1]; exact hz1
          have d4 : W1.cell? ⟨g, j * 2 + 1, none⟩ = some (.int .i64 z) := by rw [← hW1]; exact hz2
          clear hW1
          have f4 : W1.frozen? ⟨g, j * 2 + 1, none⟩ = false := HO1.out.frozenAt _
          obtain ⟨mx, hmx2⟩ : ∃ q, max z y = q := ⟨_, rfl⟩
          rw [hmx2] at HN
          go_wp2_with fail
          refine wp_region_still_tail 10 (by kernel_rfl) (by kernel_rfl) ?_
          simp only [List.take_succ_cons, List.take_zero, List.drop_succ_cons, List.drop_zero]
          repeat still_step
          refine wpStill_nil ?_
          go_wp2_with fail
          go_roundw
          case rel => exact ⟨k + 1, j + 1, u.set j (z0, mx), by omega, by go_num, by omega, Lib.hid (by
            have := own_until HO1.out.drew j (by have := HUL.out; omega) mx
            rw [HZ0.out] at this; exact this), HN, Lib.hid (HB1.out.drew.setCell (p := ⟨g, j * 2 + 1, none⟩) hgb _)⟩
          case measure => simp [intOf]; omega
    · have hkn : k = n := by omega
      have HU2 := Lib.hid (show u = unionW ps by rw [HM.out, hkn, List.take_of_length_le (by have := HL.out; omega), HU.out])
      obtain ⟨bo, dap, rfl, hwo, hbz, _⟩ := wins_of_owns HO.out
      have HWO := Lib.hid hwo
      clear hwo hbz hkn
      go_wp2_with fail
      go_ret
      exact ⟨bo, m, dap, rfl, by rw [← HU2.out]; exact HWO.out, HB.out.trans (HW2.out.mono HB.out.size), fun b off e => by subst e; exact Nat.le_trans HB.out.size (HO.out.lt b rfl).1⟩
theorem union_s (po : Option Addr) (L cp : Nat) (ps : List Wn) (w : World) (h : WinsAt w po L cp ps) (hL : L ≤ 1000) (h0 : po = none → L = 0 ∧ cp = 0) :
    Calls Tryz.prog 58 #[.slice po L cp] w fun e w' =>
      ∃ ao n cap, e = .returned (.slice ao n cap) ∧ WinsAt w' ao n cap (unionW ps) ∧ Below w.heap.size w w' :=
  (union_f po L cp ps w h hL h0).mono fun e w' ⟨ao, n, cap, h1, h2, h3, _⟩ => ⟨ao, n, cap, h1, h2, h3⟩

end Go.Proofs.YtgepcbggkfjlgaaGreatDoor
end

section
/-
  Lists of attributes as values: ascending lists of strings without doubles, the normal form, and what determines it.
-/
set_option maxRecDepth 100000
set_option linter.unusedVariables false
set_option linter.unusedSimpArgs false
set_option linter.unnecessarySimpa false
namespace Go.Proofs.YtgepcbggkfjlgaaGreatDoor
open Go.RowKit Go.PlainAid

def cmpS (a b : ByteArray) : Int := Lib.compareBytes a.data.toList b.data.toList

theorem cb_range : ∀ a b : List UInt8, Lib.compareBytes a b = -1 ∨ Lib.compareBytes a b = 0 ∨ Lib.compareBytes a b = 1
  | [], [] => by simp [Lib.compareBytes]
  | [], _ :: _ => by simp [Lib.compareBytes]
  | _ :: _, [] => by simp [Lib.compareBytes]
  | a :: x, b :: y => by
    unfold Lib.compareBytes
    split
    · exact .inl rfl
    · split
      · exact .inr (.inr rfl)
      · exact cb_range x y
theorem cb_anti : ∀ a b : List UInt8, Lib.compareBytes b a = - Lib.compareBytes a b
  | [], [] => by simp [Lib.compareBytes]
  | [], _ :: _ => by simp [Lib.compareBytes]
  | _ :: _, [] => by simp [Lib.compareBytes]
  | a :: x, b :: y => by
    unfold Lib.compareBytes
    by_cases h1 : a < b
    · have h2 : ¬ b < a := by rw [UInt8.lt_iff_toNat_lt] at *; omega
      simp [h1, h2]
    · by_cases h2 : b < a
      · simp [h1, h2]
      · simp only [h1, h2, if_false]
        exact cb_anti x y
theorem cb_zero : ∀ a b : List UInt8, Lib.compareBytes a b = 0 ↔ a = b
  | [], [] => by simp [Lib.compareBytes]
  | [], _ :: _ => by simp [Lib.compareBytes]
  | _ :: _, [] => by simp [Lib.compareBytes]
  | a :: x, b :: y => by
    unfold Lib.compareBytes
    by_cases h1 : a < b
    · have : a ≠ b := fun e => by subst e; rw [UInt8.lt_iff_toNat_lt] at h1; omega
      simp [h1, this]
    · by_cases h2 : b < a
      · have : a ≠ b := fun e => by subst e; rw [UInt8.lt_iff_toNat_lt] at h2; omega
        simp [h1, h2, this]
      · have h3 : a = b := by apply UInt8.toNat_inj.1; rw [UInt8.lt_iff_toNat_lt] at h1 h2; omega
        simp only [h1, h2, if_false]
        rw [cb_zero x y]
        simp [h3]
theorem cb_trans : ∀ a b c : List UInt8, Lib.compareBytes a b ≤ 0 → Lib.compareBytes b c ≤ 0 → Lib.compareBytes a c ≤ 0
  | [], _, [] => by simp [Lib.compareBytes]
  | [], _, _ :: _ => by simp [Lib.compareBytes]
  | _ :: _, [], _ => by simp [Lib.compareBytes]
  | _ :: _, _ :: _, [] => by simp [Lib.compareBytes]
  | a :: x, b :: y, c :: z => by
    unfold Lib.compareBytes
    intro h1 h2
    by_cases ab : a < b
    · by_cases bc : b < c
      · have : a < c := by rw [UInt8.lt_iff_toNat_lt] at *; omega
        simp [this]
      · by_cases cb : c < b
        · simp [bc, cb] at h2
        · have : a < c := by rw [UInt8.lt_iff_toNat_lt] at *; omega
          simp [this]
    · by_cases ba : b < a
      · simp [ab, ba] at h1
      · simp only [ab, ba, if_false] at h1
        by_cases bc : b < c
        · have : a < c := by rw [UInt8.lt_iff_toNat_lt] at *; omega
          simp [this]
        · by_cases cb : c < b
          · simp [bc, cb] at h2
          · simp only [bc, cb, if_false] at h2
            have n1 : ¬ a < c := by rw [UInt8.lt_iff_toNat_lt] at *; omega
            have n2 : ¬ c < a := by rw [UInt8.lt_iff_toNat_lt] at *; omega
            simp only [n1, n2, if_false]
            exact cb_trans x y z h1 h2
theorem ba_ext {a b : ByteArray} (h : a.data.toList = b.data.toList) : a = b := by
  cases a; cases b; simp only [ByteArray.mk.injEq]; exact Array.toList_inj.1 h
structure Ord3 {α : Type} (f : α → α → Int) : Prop where
  range : ∀ a b, f a b = -1 ∨ f a b = 0 ∨ f a b = 1
  anti : ∀ a b, f b a = - f a b
  zero : ∀ a b, f a b = 0 ↔ a = b
  trans : ∀ a b c, f a b ≤ 0 → f b c ≤ 0 → f a c ≤ 0
theorem cmpS_ord : Ord3 cmpS :=
  ⟨fun a b => cb_range _ _, fun a b => cb_anti _ _, fun a b => by unfold cmpS; rw [cb_zero]; exact ⟨ba_ext, fun e => by rw [e]⟩, fun a b c h1 h2 => cb_trans _ _ _ h1 h2⟩
theorem lowB_low (c : UInt8) : lowB (lowB c) = lowB c := by
  have h3 : (32 : UInt8).toNat = 32 := rfl
  by_cases h : 65 ≤ c.toNat ∧ c.toNat ≤ 90
  · have e : (lowB c).toNat = c.toNat + 32 := by
      unfold lowB; rw [if_pos h, UInt8.toNat_add]; omega
    have h2 : ∀ d : UInt8, ¬ (65 ≤ d.toNat ∧ d.toNat ≤ 90) → lowB d = d := fun d hd => by unfold lowB; rw [if_neg hd]
    exact h2 _ (by omega)
  · have e : lowB c = c := by unfold lowB; rw [if_neg h]
    rw [e, e]
theorem lowL_low (l : List UInt8) : lowL (lowL l) = lowL l := by
  unfold lowL; rw [List.map_map]; apply List.map_congr_left; intro c _; exact lowB_low c

theorem lowS_low (s : ByteArray) : lowS (lowS s) = lowS s := by
  unfold lowS; rw [lowL_low]
theorem cs_irrefl (a : ByteArray) : ¬ cmpS a a < 0 := by have := (cmpS_ord.zero a a).2 rfl; omega
theorem cs_trans {a b c : ByteArray} (h1 : cmpS a b < 0) (h2 : cmpS b c < 0) : cmpS a c < 0 := by
  have h := cmpS_ord.trans a b c (by omega) (by omega)
  by_cases e : cmpS a c = 0
  · have k := (cmpS_ord.zero a c).1 e
    subst k
    have := cmpS_ord.anti a b
    omega
  · omega
theorem cs_asymm {a b : ByteArray} (h : cmpS a b < 0) : ¬ cmpS b a < 0 := by have := cmpS_ord.anti a b; omega
theorem cs_tri (a b : ByteArray) : cmpS a b < 0 ∨ a = b ∨ cmpS b a < 0 := by
  have h1 := cmpS_ord.range a b
  have h2 := cmpS_ord.anti a b
  have h3 := cmpS_ord.zero a b
  by_cases h : cmpS a b = 0
  · exact .inr (.inl (h3.1 h))
  · omega
theorem cs_ne {a b : ByteArray} (h : cmpS a b < 0) : a ≠ b := fun e => by subst e; exact cs_irrefl _ h

/-! ### ascending lists without doubles -/
def AscA (l : List ByteArray) : Prop := l.Pairwise fun a b => cmpS a b < 0
def insS : List ByteArray → ByteArray → List ByteArray
  | [], s => [s]
  | x :: r, s => if cmpS x s < 0 then x :: insS r s else if x = s then x :: r else s :: x :: r
theorem insS_mem {x s : ByteArray} : ∀ {l : List ByteArray}, x ∈ insS l s ↔ x ∈ l ∨ x = s
  | [] => by simp [insS]
  | y :: r => by
    unfold insS
    by_cases h : cmpS y s < 0
    · rw [if_pos h, List.mem_cons, List.mem_cons, insS_mem, or_assoc]
    · rw [if_neg h]
      by_cases e : y = s
      · rw [if_pos e]
        subst e
        simp only [List.mem_cons]
        exact ⟨fun k => k.elim (fun k => .inr k) (fun k => .inl (.inr k)), fun k => k.elim id .inl⟩
      · rw [if_neg e]
        simp only [List.mem_cons]
        exact ⟨fun k => k.elim .inr .inl, fun k => k.elim .inr .inl⟩
theorem insS_asc {s : ByteArray} : ∀ {l : List ByteArray}, AscA l → AscA (insS l s)
  | [], _ => List.pairwise_singleton _ _
  | y :: r, h => by
    have h' := List.pairwise_cons.1 h
    unfold insS
    by_cases hy : cmpS y s < 0
    · rw [if_pos hy]
      refine List.pairwise_cons.2 ⟨fun x hx => ?_, insS_asc h'.2⟩
      rcases insS_mem.1 hx with k | k
      · exact h'.1 x k
      · rw [k]; exact hy
    · rw [if_neg hy]
      by_cases e : y = s
      · rw [if_pos e]; exact h
      · rw [if_neg e]
        have hs : cmpS s y < 0 := (cs_tri y s).elim (fun k => absurd k hy) fun k => k.elim (fun k => absurd k e) id
        refine List.pairwise_cons.2 ⟨fun x hx => ?_, h⟩
        rcases List.mem_cons.1 hx with k | k
        · rw [k]; exact hs
        · exact cs_trans hs (h'.1 x k)
theorem asc_ext : ∀ {a b : List ByteArray}, AscA a → AscA b → (∀ x, x ∈ a ↔ x ∈ b) → a = b
  | [], [], _, _, _ => rfl
  | [], y :: r, _, _, h => absurd ((h y).2 (List.mem_cons_self ..)) (List.not_mem_nil)
  | x :: r, [], _, _, h => absurd ((h x).1 (List.mem_cons_self ..)) (List.not_mem_nil)
  | x :: a, y :: b, ha, hb, h => by
    have ha' := List.pairwise_cons.1 ha
    have hb' := List.pairwise_cons.1 hb
    have e : x = y := by
      rcases List.mem_cons.1 ((h x).1 (List.mem_cons_self ..)) with k | k
      · exact k
      · rcases List.mem_cons.1 ((h y).2 (List.mem_cons_self ..)) with j | j
        · exact j.symm
        · exact absurd (ha'.1 y j) (cs_asymm (hb'.1 x k))
    subst e
    rw [asc_ext ha'.2 hb'.2 fun z => ?_]
    constructor
    · intro hz
      rcases List.mem_cons.1 ((h z).1 (List.mem_cons_of_mem _ hz)) with k | k
      · exact absurd k.symm (cs_ne (ha'.1 z hz))
      · exact k
    · intro hz
      rcases List.mem_cons.1 ((h z).2 (List.mem_cons_of_mem _ hz)) with k | k
      · exact absurd k.symm (cs_ne (hb'.1 z hz))
      · exact k
def sortU (l : List ByteArray) : List ByteArray := l.foldl insS []
theorem foldl_mem {x : ByteArray} : ∀ (l a : List ByteArray), x ∈ l.foldl insS a ↔ x ∈ a ∨ x ∈ l
  | [], a => by simp
  | y :: r, a => by
    rw [List.foldl_cons, foldl_mem r, insS_mem, List.mem_cons, or_assoc]
theorem foldl_asc : ∀ (l a : List ByteArray), AscA a → AscA (l.foldl insS a)
  | [], _, h => h
  | _ :: r, _, h => by rw [List.foldl_cons]; exact foldl_asc r _ (insS_asc h)
theorem sortU_mem {x : ByteArray} {l : List ByteArray} : x ∈ sortU l ↔ x ∈ l := by unfold sortU; rw [foldl_mem]; simp
theorem sortU_asc (l : List ByteArray) : AscA (sortU l) := foldl_asc l [] List.Pairwise.nil
theorem sortU_id {l : List ByteArray} (h : AscA l) : sortU l = l := asc_ext (sortU_asc l) h fun _ => sortU_mem
theorem sortU_snoc (l : List ByteArray) (s : ByteArray) : sortU (l ++ [s]) = insS (sortU l) s := by unfold sortU; rw [List.foldl_append]; rfl
theorem sortU_eq {a b : List ByteArray} (h : ∀ x, x ∈ a ↔ x ∈ b) : sortU a = sortU b :=
  asc_ext (sortU_asc a) (sortU_asc b) fun x => by rw [sortU_mem, sortU_mem]; exact h x
theorem sortU_nil {l : List ByteArray} : sortU l = [] ↔ l = [] := by
  constructor
  · intro h
    cases l with
    | nil => rfl
    | cons x r => exact absurd (h ▸ sortU_mem.2 (List.mem_cons_self ..) : x ∈ ([] : List ByteArray)) List.not_mem_nil
  · intro h; rw [h]; rfl
theorem insS_len : ∀ (l : List ByteArray) (s : ByteArray), (insS l s).length ≤ l.length + 1
  | [], _ => Nat.le_refl _
  | x :: r, s => by
    unfold insS
    have := insS_len r s
    split
    · simpa using this
    · split <;> simp
theorem foldl_len : ∀ (l a : List ByteArray), (l.foldl insS a).length ≤ a.length + l.length
  | [], _ => Nat.le_refl _
  | y :: r, a => by
    rw [List.foldl_cons, List.length_cons]
    have h1 := foldl_len r (insS a y)
    have h2 := insS_len a y
    omega
theorem sortU_len (l : List ByteArray) : (sortU l).length ≤ l.length := by have := foldl_len l []; simpa [sortU] using this
theorem asc_nodup {l : List ByteArray} (h : AscA l) : l.Nodup := h.imp cs_ne
/-- a list without doubles keeps its length -/
theorem insS_len_new : ∀ {l : List ByteArray} {s : ByteArray}, AscA l → s ∉ l → (insS l s).length = l.length + 1
  | [], _, _, _ => rfl
  | x :: r, s, h, hn => by
    unfold insS
    have hr := insS_len_new (List.pairwise_cons.1 h).2 (fun k => hn (List.mem_cons_of_mem _ k))
    by_cases h1 : cmpS x s < 0
    · rw [if_pos h1]; simpa using hr
    · rw [if_neg h1, if_neg (fun e => hn (by rw [e]; exact List.mem_cons_self ..))]; simp
theorem foldl_len_new : ∀ (l a : List ByteArray), AscA a → l.Nodup → (∀ x ∈ l, x ∉ a) → (l.foldl insS a).length = a.length + l.length
  | [], _, _, _, _ => rfl
  | y :: r, a, ha, hl, hd => by
    have hl' := List.nodup_cons.1 hl
    rw [List.foldl_cons, foldl_len_new r _ (insS_asc ha) hl'.2 (fun x hx k => ?_), insS_len_new ha (hd y (List.mem_cons_self ..)), List.length_cons]
    · omega
    · rcases insS_mem.1 k with k | k
      · exact hd x (List.mem_cons_of_mem _ hx) k
      · exact hl'.1 (k ▸ hx)
theorem sortU_len_new {l : List ByteArray} (h : l.Nodup) : (sortU l).length = l.length := by
  have := foldl_len_new l [] List.Pairwise.nil h (fun _ _ => List.not_mem_nil)
  simpa [sortU] using this

/-! ### attributes -/
abbrev At := ByteArray × List ByteArray
/-- the attribute with the name n has the value v -/
def Hs (l : List At) (n v : ByteArray) : Prop := ∃ a ∈ l, a.1 = n ∧ v ∈ a.2
/-- .. whatever the letters' case -/
def Hl (l : List At) (n v : ByteArray) : Prop := ∃ a ∈ l, lowS a.1 = n ∧ v ∈ a.2
structure NF (l : List At) : Prop where
  asc : AscA (l.map (·.1))
  low : ∀ a ∈ l, lowS a.1 = a.1
  vasc : ∀ a ∈ l, AscA a.2
  ne : ∀ a ∈ l, a.2 ≠ []
/-- all values of the attributes with a name in small letters -/
def allV (l : List At) (n : ByteArray) : List ByteArray := (l.filter fun a => decide (lowS a.1 = n)).flatMap (·.2)
def vals (l : List At) (n : ByteArray) : List ByteArray := sortU (allV l n)
def names (l : List At) : List ByteArray := sortU ((l.filter fun a => !a.2.isEmpty).map fun a => lowS a.1)
/-- the normal form -/
def nf (l : List At) : List At := (names l).map fun n => (n, vals l n)
theorem allV_mem {l : List At} {n v : ByteArray} : v ∈ allV l n ↔ Hl l n v := by
  unfold allV Hl
  simp only [List.mem_flatMap, List.mem_filter, decide_eq_true_eq]
  exact ⟨fun ⟨a, ⟨h1, h2⟩, h3⟩ => ⟨a, h1, h2, h3⟩, fun ⟨a, h1, h2, h3⟩ => ⟨a, ⟨h1, h2⟩, h3⟩⟩
theorem vals_mem {l : List At} {n v : ByteArray} : v ∈ vals l n ↔ Hl l n v := by unfold vals; rw [sortU_mem, allV_mem]
theorem vals_asc (l : List At) (n : ByteArray) : AscA (vals l n) := sortU_asc _
theorem names_mem {l : List At} {n : ByteArray} : n ∈ names l ↔ ∃ v, Hl l n v := by
  unfold names Hl
  rw [sortU_mem, List.mem_map]
  constructor
  · rintro ⟨a, ha, e⟩
    rw [List.mem_filter] at ha
    cases h : a.2 with
    | nil => rw [h] at ha; simp at ha
    | cons v r => exact ⟨v, a, ha.1, e, by rw [h]; exact List.mem_cons_self ..⟩
  · rintro ⟨v, a, ha, e, hv⟩
    refine ⟨a, List.mem_filter.2 ⟨ha, ?_⟩, e⟩
    cases h : a.2 with
    | nil => rw [h] at hv; exact absurd hv List.not_mem_nil
    | cons v r => rfl
theorem names_vals {l : List At} {n : ByteArray} : n ∈ names l ↔ vals l n ≠ [] := by
  rw [names_mem]
  constructor
  · rintro ⟨v, hv⟩ e
    have := vals_mem.2 hv
    rw [e] at this
    exact absurd this List.not_mem_nil
  · intro h
    obtain ⟨v, hv⟩ := List.exists_mem_of_ne_nil _ h
    exact ⟨v, vals_mem.1 hv⟩
theorem nf_names (l : List At) : (nf l).map (·.1) = names l := by unfold nf; rw [List.map_map]; exact List.map_id _
theorem nf_mem {l : List At} {a : At} : a ∈ nf l ↔ a.2 = vals l a.1 ∧ a.2 ≠ [] := by
  unfold nf
  rw [List.mem_map]
  constructor
  · rintro ⟨n, hn, rfl⟩; exact ⟨rfl, names_vals.1 hn⟩
  · rintro ⟨h1, h2⟩
    refine ⟨a.1, names_vals.2 (h1 ▸ h2), ?_⟩
    rw [← h1]
theorem nf_NF (l : List At) : NF (nf l) where
  asc := by rw [nf_names]; exact sortU_asc _
  low a ha := by
    obtain ⟨h1, h2⟩ := nf_mem.1 ha
    rw [h1] at h2
    obtain ⟨v, hv⟩ := names_mem.1 (names_vals.2 h2)
    obtain ⟨b, _, e, _⟩ := hv
    rw [← e, lowS_low]
  vasc a ha := by rw [(nf_mem.1 ha).1]; exact vals_asc _ _
  ne a ha := (nf_mem.1 ha).2
theorem hs_nf {l : List At} {n v : ByteArray} : Hs (nf l) n v ↔ Hl l n v := by
  unfold Hs
  constructor
  · rintro ⟨a, ha, rfl, hv⟩
    rw [(nf_mem.1 ha).1, vals_mem] at hv
    exact hv
  · intro h
    have hv := vals_mem.2 h
    exact ⟨(n, vals l n), nf_mem.2 ⟨rfl, fun e => by simp only [] at e; rw [e] at hv; exact absurd hv List.not_mem_nil⟩, rfl, hv⟩
theorem hl_low {l : List At} (h : ∀ a ∈ l, lowS a.1 = a.1) {n v : ByteArray} : Hl l n v ↔ Hs l n v :=
  ⟨fun ⟨a, ha, e, hv⟩ => ⟨a, ha, (h a ha).symm.trans e, hv⟩, fun ⟨a, ha, e, hv⟩ => ⟨a, ha, (h a ha).trans e, hv⟩⟩
theorem hl_nf {l : List At} {n v : ByteArray} : Hl (nf l) n v ↔ Hl l n v := (hl_low (nf_NF l).low).trans hs_nf
/-- of ascending names the one with a name is one alone -/
theorem nf_one {l : List At} (h : AscA (l.map (·.1))) {a b : At} (ha : a ∈ l) (hb : b ∈ l) (e : a.1 = b.1) : a = b := by
  unfold AscA at h
  rw [List.pairwise_map] at h
  rcases List.pairwise_iff_getElem.1 h with h'
  obtain ⟨i, hi, rfl⟩ := List.getElem_of_mem ha
  obtain ⟨j, hj, rfl⟩ := List.getElem_of_mem hb
  rcases Nat.lt_trichotomy i j with k | k | k
  · exact absurd e (cs_ne (h' i j hi hj k))
  · subst k; rfl
  · exact absurd e.symm (cs_ne (h' j i hj hi k))
theorem nf_ext {a b : List At} (ha : NF a) (hb : NF b) (h : ∀ n v, Hs a n v ↔ Hs b n v) : a = b := by
  have key : ∀ {a b : List At}, NF a → NF b → (∀ n v, Hs a n v ↔ Hs b n v) → ∀ x ∈ a, x ∈ b := by
    intro a b ha hb h x hx
    obtain ⟨v, hv⟩ := List.exists_mem_of_ne_nil _ (ha.ne x hx)
    obtain ⟨y, hy, e, _⟩ := (h x.1 v).1 ⟨x, hx, rfl, hv⟩
    have : x.2 = y.2 := asc_ext (ha.vasc x hx) (hb.vasc y hy) fun z => by
      constructor
      · intro hz
        obtain ⟨y', hy', e', hz'⟩ := (h x.1 z).1 ⟨x, hx, rfl, hz⟩
        rw [nf_one hb.asc hy hy' (e.trans e'.symm)]; exact hz'
      · intro hz
        obtain ⟨x', hx', e', hz'⟩ := (h x.1 z).2 ⟨y, hy, e, hz⟩
        rw [nf_one ha.asc hx hx' e'.symm]; exact hz'
    rw [show x = y from Prod.ext e.symm this]; exact hy
  have hm : a.map (·.1) = b.map (·.1) := asc_ext ha.asc hb.asc fun n => by
    rw [List.mem_map, List.mem_map]
    exact ⟨fun ⟨x, hx, e⟩ => ⟨x, key ha hb h x hx, e⟩, fun ⟨x, hx, e⟩ => ⟨x, key hb ha (fun n v => (h n v).symm) x hx, e⟩⟩
  have hlen : a.length = b.length := by simpa using congrArg List.length hm
  apply List.ext_getElem hlen
  intro i h1 h2
  refine nf_one hb.asc (key ha hb h _ (List.getElem_mem h1)) (List.getElem_mem h2) ?_
  have := congrArg (fun l => l[i]?) hm
  simpa [List.getElem?_map, List.getElem?_eq_getElem h1, List.getElem?_eq_getElem h2] using this
theorem nf_id {l : List At} (h : NF l) : nf l = l := nf_ext (nf_NF l) h fun n v => hs_nf.trans (hl_low h.low)
theorem nf_nf (l : List At) : nf (nf l) = nf l := nf_id (nf_NF l)
theorem vals_nf (l : List At) (n : ByteArray) : vals (nf l) n = vals l n := asc_ext (vals_asc _ _) (vals_asc _ _) fun v => by rw [vals_mem, vals_mem, hl_nf]
theorem nf_get {l : List At} {a : At} (h : NF l) (ha : a ∈ l) : vals l a.1 = a.2 := asc_ext (vals_asc _ _) (h.vasc a ha) fun v => by
  rw [vals_mem, hl_low h.low]
  exact ⟨fun ⟨b, hb, e, hv⟩ => by rw [nf_one h.asc ha hb e.symm]; exact hv, fun hv => ⟨a, ha, rfl, hv⟩⟩


end Go.Proofs.YtgepcbggkfjlgaaGreatDoor
end

section
/-
  What the proofs of this seat share (its statements list no variable: rows, no cards): arguments that are only read, slices of strings that came in.
-/
set_option maxRecDepth 100000
set_option linter.unusedVariables false
set_option linter.unusedSimpArgs false
set_option linter.unnecessarySimpa false
namespace Go.Proofs.YtgepcbggkfjlgaaGreatDoor
open Go.ChangeShapes Go.WideShapes Go.ChangeAt Go.RowKit



end Go.Proofs.YtgepcbggkfjlgaaGreatDoor
end

section
/-
  Slices of strings that the call has made or that came in, and the contract of the specification's Same. No condition beyond sizes.
-/
set_option maxRecDepth 100000
set_option linter.unusedVariables false
set_option linter.unusedSimpArgs false
set_option linter.unnecessarySimpa false
namespace Go.Proofs.YtgepcbggkfjlgaaGreatDoor
open Go.RowKit Go.PlainAid



theorem scells_snoc (l : List ByteArray) (p : ByteArray) : scells (l ++ [p]) = scells l ++ [.string p] := by simp [scells]
theorem strs_own {w : World} {base n : Nat} {v : Value} {l : List ByteArray} (h : w.ownsRow base 9 1 v n (scells l)) (hn : l.length = n) : ∃ ao cap, v = .slice ao n cap ∧ StrsAt w ao n cap l := by
  have h0 := h
  rcases h.2 with ⟨rfl, rfl⟩ | ⟨g, cap, cur, rfl, hb, hg, hc, hm, hcs, ht⟩
  · exact ⟨none, 0, rfl, hn, Nat.le_refl _, by unfold maxLen; omega, fun h => absurd h (Nat.lt_irrefl _)⟩
  · refine ⟨_, cap, rfl, hn, hc, hm, fun h1 => ⟨g, 0, rfl, ?_, fun j hj => ?_⟩⟩
    · rcases Nat.lt_or_ge g w.heap.size with h' | h'
      · exact h'
      · simp [Array.getElem?_eq_none h'] at hg
    · have := h0.cells (g := g) rfl j (.string (partAt l j)) (by
        unfold scells partAt
        rw [List.getElem?_map, List.getD_eq_getElem?_getD, List.getElem?_eq_getElem hj]; rfl)
      rw [Go.WideShapes.add_plain] at this
      exact this
/-- what lies at or above a block -/
def FreshA (B : Nat) (bo : Option Addr) : Prop := ∀ b off, bo = some ⟨b, off, none⟩ → B ≤ b
theorem strs_fresh {w : World} {base n cap : Nat} {ao : Option Addr} {xs : List Value} (h : w.ownsRow base 9 1 (.slice ao n cap) n xs) : FreshA base ao := by
  intro b off e
  subst e
  exact (h.lt b rfl).1
theorem StrsAt.keep {w w' : World} {ao : Option Addr} {n cap : Nat} {ps : List ByteArray} (h : StrsAt w ao n cap ps) (hs : w.heap.size ≤ w'.heap.size) (hk : ∀ b off, ao = some ⟨b, off, none⟩ → b < w.heap.size → w'.heap[b]? = w.heap[b]?) : StrsAt w' ao n cap ps :=
  ⟨h.1, h.2.1, h.2.2.1, fun hn => by
    obtain ⟨b, off, e, hi⟩ := h.2.2.2 hn
    refine ⟨b, off, e, Nat.lt_of_lt_of_le hi.1 hs, fun j hj => ?_⟩
    rw [← hi.2 j hj]
    exact World.cell?_of_block (a := ⟨b, off + j, none⟩) (hk b off e hi.1)⟩
/-- the same append, and where the row lies behind it -/
theorem push_lies {ops : Array Oper} {rest : List Oper} {o : Oper} {a : Act} {Q : Exit → Act → World → Prop} (wr : World) {base : Nat} {v : Value} {n : Nat} {xs : List Value} (hown : wr.ownsRow base 9 1 v n xs) (s x : Operand)
    (p : ByteArray) (hgd : o.guard = none)
    (ho : o.op = .call { callee := .builtin .append, args := #[s, x], argTypes := #[88, 88] })
    (hs : a.eval s = v) (hx : a.eval x = .slice (some ⟨wr.heap.size, 0, none⟩) 1 1) (hn : n + 1 ≤ 1000000000) (hbase : base ≤ wr.heap.size)
    (h : ∀ g cap w', w'.ownsRow base 9 1 (.slice (some ⟨g, 0, none⟩) (n + 1) cap) (n + 1) (xs ++ [.string p]) → Below base wr w' → Hid (∀ k, k < wr.heap.size → v.ownBlock ≠ some k → w'.heap[k]? = wr.heap[k]?) →
      wpList Tryz.prog ops Q rest (a.put o.dst (.slice (some ⟨g, 0, none⟩) (n + 1) cap)) w') :
    wpList Tryz.prog ops Q (o :: rest) a (wr.alloc (.cells #[.string p] 9)) := by
  obtain ⟨i0, hi, hz0, hz1, hz2⟩ := info_parts info_string
  refine wpList_append_lies _ hgd s x 88 ho base 9 i0 (.string ⟨#[]⟩) 1 16 Tryz.underlying88 hi hz0 hz1 hz2 rfl (by decide) v n xs hs (hown.alloc _) ⟨wr.heap.size, 0, none⟩ 1 1 [.string p] hx rfl
    (cell_one_new _ _ _) (by intro u hu; simp at hu; subst hu; rfl) (by decide) (by unfold maxLen; omega) (by omega) (by simp; omega) (wr.heap.size + 1) (by simp) ?_
  intro g cap w' h1 h2 _ _
  refine h g cap w' h1 ?_ (Lib.hid fun k hk hne => ?_)
  · exact ((Below.refl base wr).alloc hbase _).grown h2 (by simp; omega) (fun k hk => (hown.lt k hk).1)
  · rw [h2.block k (by simp; omega) (fun e => hne e.symm)]
    exact Below.heap_alloc wr _ k hk
/-- an element of a slice of strings: its cell in every later world -/
theorem StrsAt.at {w : World} {ao : Option Addr} {n cap : Nat} {ps : List ByteArray} (h : StrsAt w ao n cap ps) (hn : 0 < n) : ∃ b off, ao = some ⟨b, off, none⟩ ∧ b < w.heap.size ∧
    ∀ w', Below w.heap.size w w' → ∀ j, j < n → w'.cell? ⟨b, off + j, none⟩ = some (.string (partAt ps j)) := by
  obtain ⟨b, off, e, hi⟩ := h.2.2.2 hn
  exact ⟨b, off, e, hi.1, fun w' hb j hj => (hi.below hb hi.1).2 j (by rw [h.1]; exact hj)⟩
theorem StrsAt.drop {w : World} {b off n cap : Nat} {p : ByteArray} {r : List ByteArray} (h : StrsAt w (some ⟨b, off, none⟩) n cap (p :: r)) : StrsAt w (some ⟨b, off + 1, none⟩) (n - 1) (cap - 1) r := by
  obtain ⟨h1, h2, h3, h4⟩ := h
  have hl : r.length + 1 = n := h1
  refine ⟨by omega, by omega, by omega, fun hn => ?_⟩
  obtain ⟨b', off', e, hi⟩ := h4 (by omega)
  cases e
  refine ⟨b, off + 1, rfl, hi.1, fun j hj => ?_⟩
  have := hi.2 (j + 1) (by simpa using hj)
  rw [show off + 1 + j = off + (j + 1) by omega]
  exact this
theorem strs_ext {ps qs : List ByteArray} (h : ps.length = qs.length) (k : ∀ j, j < ps.length → partAt ps j = partAt qs j) : ps = qs := by
  apply List.ext_getElem h
  intro i h1 h2
  have := k i h1
  unfold partAt at this
  rwa [List.getD_eq_getElem?_getD, List.getD_eq_getElem?_getD, List.getElem?_eq_getElem h1, List.getElem?_eq_getElem h2] at this

end Go.Proofs.YtgepcbggkfjlgaaGreatDoor
end

section
/-
  Contracts of the specification's has and Insert. Insert at an ascending list without doubles. No condition beyond sizes.
-/
set_option maxRecDepth 100000
set_option linter.unusedVariables false
set_option linter.unusedSimpArgs false
set_option linter.unnecessarySimpa false
namespace Go.Proofs.YtgepcbggkfjlgaaGreatDoor
open Go.RowKit Go.PlainAid

theorem str_eq (a b : ByteArray) : (a.toList == b.toList) = decide (a = b) := by
  rw [Lib.toList_data, Lib.toList_data, Bool.eq_iff_iff, beq_iff_eq, decide_eq_true_eq]
  exact ⟨fun h => by rw [← Lib.mk_data a, ← Lib.mk_data b, h], fun h => by rw [h]⟩
theorem str_ne (a b : ByteArray) : (a.toList != b.toList) = decide (a ≠ b) := by
  rw [bne, str_eq]; by_cases h : a = b <;> simp [h]
theorem str_geq (t : TypeId) (a b : ByteArray) : binOp .geq t (.string a) (.string b) = pure (.bool !(Op.bytesLess a.toList b.toList)) := by simp [binOp, Op.stringOp]
theorem less_cmp : ∀ a b : List UInt8, Op.bytesLess a b = decide (Lib.compareBytes a b < 0)
  | [], [] => by simp [Op.bytesLess, Lib.compareBytes]
  | [], _ :: _ => by simp [Op.bytesLess, Lib.compareBytes]
  | _ :: _, [] => by simp [Op.bytesLess, Lib.compareBytes]
  | x :: a, y :: b => by
    unfold Op.bytesLess Lib.compareBytes
    rw [less_cmp a b]
    by_cases h : x < y
    · simp [h]
    · by_cases g : y < x
      · have hne : ¬ x = y := fun e => by subst e; exact h g
        simp [h, g, hne]
      · have he : x = y := by
          have h1 : ¬ x.toNat < y.toNat := fun k => h (UInt8.lt_iff_toNat_lt.2 k)
          have h2 : ¬ y.toNat < x.toNat := fun k => g (UInt8.lt_iff_toNat_lt.2 k)
          exact UInt8.toNat_inj.1 (by omega)
        simp [h, g, he]
theorem str_less (a b : ByteArray) : Op.bytesLess a.toList b.toList = decide (cmpS a b < 0) := by
  rw [less_cmp, Lib.toList_data, Lib.toList_data]; rfl

def memB (l : List ByteArray) (s : ByteArray) : Bool := l.any fun x => decide (x = s)
theorem memB_iff {l : List ByteArray} {s : ByteArray} : memB l s = true ↔ s ∈ l := by
  unfold memB
  rw [List.any_eq_true]
  exact ⟨fun ⟨x, h, e⟩ => by rw [← of_decide_eq_true e]; exact h, fun h => ⟨s, h, decide_eq_true rfl⟩⟩

/-! ### Insert -/
theorem insS_all {s : ByteArray} (r : List ByteArray) : ∀ (a : List ByteArray), (∀ x ∈ a, cmpS x s < 0) → insS (a ++ r) s = a ++ insS r s
  | [], _ => rfl
  | x :: a, h => by
    rw [List.cons_append]
    show (if cmpS x s < 0 then x :: insS (a ++ r) s else _) = _
    rw [if_pos (h x (List.mem_cons_self ..)), insS_all r a (fun y hy => h y (List.mem_cons_of_mem _ hy))]; rfl
theorem insS_done {s y : ByteArray} : ∀ (a : List ByteArray), (∃ x ∈ a, ¬ cmpS x s < 0) → insS (a ++ [y]) s = insS a s ++ [y]
  | [], h => by obtain ⟨x, hx, _⟩ := h; exact absurd hx List.not_mem_nil
  | x :: a, h => by
    rw [List.cons_append]
    show (if cmpS x s < 0 then x :: insS (a ++ [y]) s else if x = s then x :: (a ++ [y]) else s :: x :: (a ++ [y])) = (if cmpS x s < 0 then x :: insS a s else if x = s then x :: a else s :: x :: a) ++ [y]
    by_cases hx : cmpS x s < 0
    · rw [if_pos hx, if_pos hx, insS_done a]
      · rfl
      · obtain ⟨z, hz, hn⟩ := h
        rcases List.mem_cons.1 hz with k | k
        · exact absurd (k ▸ hx) hn
        · exact ⟨z, k, hn⟩
    · rw [if_neg hx, if_neg hx]
      by_cases e : x = s
      · rw [if_pos e, if_pos e]; rfl
      · rw [if_neg e, if_neg e]; rfl
theorem insS_one {s y : ByteArray} (h : ¬ cmpS y s < 0) : insS [y] s = if y = s then [s] else [s, y] := by
  show (if cmpS y s < 0 then _ else if y = s then [y] else [s, y]) = _
  rw [if_neg h]
  by_cases e : y = s
  · rw [if_pos e, if_pos e, e]
  · rw [if_neg e, if_neg e]
theorem take_snoc (l : List ByteArray) (k : Nat) (h : k < l.length) : l.take (k + 1) = l.take k ++ [partAt l k] := by
  unfold partAt
  rw [List.take_succ_eq_append_getElem h, List.getD_eq_getElem?_getD, List.getElem?_eq_getElem h]; rfl
theorem part_mem (l : List ByteArray) (k : Nat) (h : k < l.length) : partAt l k ∈ l := by
  unfold partAt
  rw [List.getD_eq_getElem?_getD, List.getElem?_eq_getElem h]; exact List.getElem_mem h
/-- what Insert has written behind k elements -/
def insAt (l : List ByteArray) (s : ByteArray) (k : Nat) (dn : Bool) (o : List ByteArray) : Prop :=
  (dn = false ∧ o = l.take k ∧ ∀ x ∈ l.take k, cmpS x s < 0) ∨ (dn = true ∧ o = insS (l.take k) s ∧ ∃ x ∈ l.take k, ¬ cmpS x s < 0)
theorem insAt_zero (l : List ByteArray) (s : ByteArray) : insAt l s 0 false [] := .inl ⟨rfl, by simp, by simp⟩
theorem insAt_len {l : List ByteArray} {s : ByteArray} {k : Nat} {o : List ByteArray} (h : insAt l s k false o) : o.length ≤ k := by
  rcases h with ⟨_, e, _⟩ | ⟨e, _⟩
  · rw [e, List.length_take]; omega
  · cases e
theorem insAt_low {l : List ByteArray} {s : ByteArray} {k : Nat} {o : List ByteArray} (h : insAt l s k false o) (hk : k < l.length) (hc : cmpS (partAt l k) s < 0) : insAt l s (k + 1) false (o ++ [partAt l k]) := by
  rcases h with ⟨_, e, ha⟩ | ⟨e, _⟩
  · refine .inl ⟨rfl, by rw [e, take_snoc l k hk], fun x hx => ?_⟩
    rw [take_snoc l k hk] at hx
    rcases List.mem_append.1 hx with j | j
    · exact ha x j
    · rw [List.mem_singleton.1 j]; exact hc
  · cases e
theorem insAt_same {l : List ByteArray} {s : ByteArray} {k : Nat} {o : List ByteArray} (h : insAt l s k false o) (hk : k < l.length) (hc : partAt l k = s) : insAt l s (k + 1) true (o ++ [s]) := by
  have hn : ¬ cmpS (partAt l k) s < 0 := by rw [hc]; exact cs_irrefl s
  rcases h with ⟨_, e, ha⟩ | ⟨e, _⟩
  · refine .inr ⟨rfl, ?_, partAt l k, by rw [take_snoc l k hk]; simp, hn⟩
    rw [take_snoc l k hk, insS_all _ _ ha, insS_one hn, if_pos hc, e]
  · cases e
theorem insAt_new {l : List ByteArray} {s : ByteArray} {k : Nat} {o : List ByteArray} (h : insAt l s k false o) (hk : k < l.length) (hn : ¬ cmpS (partAt l k) s < 0) (hc : ¬ partAt l k = s) : insAt l s (k + 1) true ((o ++ [s]) ++ [partAt l k]) := by
  rcases h with ⟨_, e, ha⟩ | ⟨e, _⟩
  · refine .inr ⟨rfl, ?_, partAt l k, by rw [take_snoc l k hk]; simp, hn⟩
    rw [take_snoc l k hk, insS_all _ _ ha, insS_one hn, if_neg hc, e]; simp
  · cases e
theorem insAt_more {l : List ByteArray} {s : ByteArray} {k : Nat} {o : List ByteArray} (ha : AscA l) (h : insAt l s k true o) (hk : k < l.length) : partAt l k ≠ s ∧ insAt l s (k + 1) true (o ++ [partAt l k]) := by
  rcases h with ⟨e, _⟩ | ⟨_, e, x, hx, hn⟩
  · cases e
  · have hlt : cmpS x (partAt l k) < 0 := by
      have h1 : AscA (l.take (k + 1)) := List.Pairwise.sublist (List.take_sublist _ _) ha
      rw [take_snoc l k hk] at h1
      exact (List.pairwise_append.1 h1).2.2 x hx _ (List.mem_singleton.2 rfl)
    refine ⟨fun e' => hn (e' ▸ hlt), .inr ⟨rfl, by rw [take_snoc l k hk, insS_done _ ⟨x, hx, hn⟩, e], x, by rw [take_snoc l k hk]; exact List.mem_append_left _ hx, hn⟩⟩
theorem insAt_end {l : List ByteArray} {s : ByteArray} {dn : Bool} {o : List ByteArray} (h : insAt l s l.length dn o) : insS l s = if dn then o else o ++ [s] := by
  rcases h with ⟨rfl, e, ha⟩ | ⟨rfl, e, _⟩
  · rw [List.take_length] at e ha
    have := insS_all (s := s) [] l ha
    rw [List.append_nil] at this
    rw [this, e]; rfl
  · rw [List.take_length] at e
    rw [← e]; rfl

end Go.Proofs.YtgepcbggkfjlgaaGreatDoor
end

section
/-
  DERIVED: THE SHELF's CONTRACTS AT THIS DUMP, IN PLAIN WORDS (tools/lay-plain.mjs out of 'TryzShelfSSrc.lean', which tools/lay-shelf.mjs wrote): THE SAME DECLARATIONS UNDER THE SAME NAMES: 'import', 'namespace', 'open', 'def', 'theorem' AND NOTHING ELSE: no command of the shelf's: FOR A HAND-IN. Each laying: the table of numbers ('.._ren') and one theorem, a field a fact of the dump's own or the kernel's comparison; each contract: ONE APPLICATION.
-/
namespace Go.Proofs
open Go.Shelf
def Tryz.lays170_ren : Go.Shelf.Ren := ⟨fun | 170 => 50 | n => n, fun | 70 => 64 | 3 => 3 | 0 => 0 | 72 => 67 | 37 => 65 | 5 => 5 | n => n, fun | n => n⟩
theorem Tryz.lays170 : Go.Proofs.Lays.n170 Tryz.prog Tryz.lays170_ren := {
  mixed := by kernel_rfl
  f170 := Tryz.func50.trans (congrArg some (by kernel_rfl))
  t0 := Tryz.underlying0
  a0 := Tryz.isAgg0
  z0 := Tryz.sizeOf0
  v0 := Tryz.zeroValue0
  t3 := Tryz.underlying3
  a3 := Tryz.isAgg3
  z3 := Tryz.sizeOf3
  v3 := Tryz.zeroValue3
  t37 := Tryz.underlying65
  a37 := Tryz.isAgg65
  z37 := Tryz.sizeOf65
  v37 := Tryz.zeroValue65
  t70 := Tryz.underlying64
  a70 := Tryz.isAgg64
  z70 := Tryz.sizeOf64
  v70 := Tryz.zeroValue64
  t72 := Tryz.underlying67
  a72 := Tryz.isAgg67
  z72 := Tryz.sizeOf67
  v72 := Tryz.zeroValue67 }
open Go.RowKit in
/-- (*strings.Builder).Len: "Len returns the number of accumulated bytes; b.Len() == len(b.String()).": the world is as it was. (LAID: no walk: one application.) -/
theorem Tryz.Builder_Len (B b : Nat) (bs : List Value) (w : World) (h : Lib.IsBuilder 67 5 B b bs w) :
    Calls Tryz.prog 50 #[.pointer (some ⟨b, 0, none⟩)] w fun e w' => e = .returned (.int .i64 bs.length) ∧ w' = w := Any.Builder_Len Tryz.lays170 B b bs w h
def Tryz.lays156_ren : Go.Shelf.Ren := ⟨fun | 156 => 75 | 165 => 96 | 166 => 48 | 169 => 51 | 240 => 71 | 241 => 113 | 276 => 92 | 277 => 128 | n => n, fun | 31 => 88 | 9 => 9 | 3 => 3 | 4 => 4 | 0 => 0 | 20 => 20 | 72 => 67 | 76 => 70 | 70 => 64 | 37 => 65 | 75 => 69 | 127 => 95 | 164 => 107 | 5 => 5 | 80 => 74 | n => n, fun | n => n⟩
theorem Tryz.lays156 : Go.Proofs.Lays.n156 Tryz.prog Tryz.lays156_ren := {
  mixed := by kernel_rfl
  f156 := Tryz.func75.trans (congrArg some (by kernel_rfl))
  f165 := Tryz.func96.trans (congrArg some (by kernel_rfl))
  f166 := Tryz.func48.trans (congrArg some (by kernel_rfl))
  f169 := Tryz.func51.trans (congrArg some (by kernel_rfl))
  f240 := Tryz.func71.trans (congrArg some (by kernel_rfl))
  f241 := Tryz.func113.trans (congrArg some (by kernel_rfl))
  f276 := Tryz.func92.trans (congrArg some (by kernel_rfl))
  f277 := Tryz.func128.trans (congrArg some (by kernel_rfl))
  t0 := Tryz.underlying0
  a0 := Tryz.isAgg0
  z0 := Tryz.sizeOf0
  v0 := Tryz.zeroValue0
  t3 := Tryz.underlying3
  a3 := Tryz.isAgg3
  z3 := Tryz.sizeOf3
  v3 := Tryz.zeroValue3
  t4 := Tryz.underlying4
  a4 := Tryz.isAgg4
  z4 := Tryz.sizeOf4
  v4 := Tryz.zeroValue4
  t9 := Tryz.underlying9
  a9 := Tryz.isAgg9
  z9 := Tryz.sizeOf9
  v9 := Tryz.zeroValue9
  t20 := Tryz.underlying20
  a20 := Tryz.isAgg20
  z20 := Tryz.sizeOf20
  v20 := Tryz.zeroValue20
  t31 := Tryz.underlying88
  a31 := Tryz.isAgg88
  z31 := Tryz.sizeOf88
  v31 := Tryz.zeroValue88
  t37 := Tryz.underlying65
  a37 := Tryz.isAgg65
  z37 := Tryz.sizeOf65
  v37 := Tryz.zeroValue65
  t70 := Tryz.underlying64
  a70 := Tryz.isAgg64
  z70 := Tryz.sizeOf64
  v70 := Tryz.zeroValue64
  t72 := Tryz.underlying67
  a72 := Tryz.isAgg67
  z72 := Tryz.sizeOf67
  v72 := Tryz.zeroValue67
  t75 := Tryz.underlying69
  a75 := Tryz.isAgg69
  z75 := Tryz.sizeOf69
  v75 := Tryz.zeroValue69
  t76 := Tryz.underlying70
  a76 := Tryz.isAgg70
  z76 := Tryz.sizeOf70
  v76 := Tryz.zeroValue70
  t127 := Tryz.underlying95
  a127 := Tryz.isAgg95
  z127 := Tryz.sizeOf95
  v127 := Tryz.zeroValue95
  t164 := Tryz.underlying107
  a164 := Tryz.isAgg107
  z164 := Tryz.sizeOf107
  v164 := Tryz.zeroValue107 }
theorem Tryz.Builder_Extra_156 : Builder.Extra Tryz.prog Tryz.lays156_ren := {
  sizeBuilder := by kernel_rfl
  liesBuilder := by kernel_rfl
  t5 := Tryz.underlying5
  a5 := Tryz.isAgg5
  z5 := Tryz.sizeOf5
  v5 := Tryz.zeroValue5
  infoByte := by kernel_rfl
  cellsByte := by kernel_rfl
  sizeByte := by kernel_rfl
  neB5 := by decide }
open Go.RowKit in
/-- strings.Join: "Join concatenates the elements of its first argument to create a single string. The separator string sep is placed between elements in the resulting string.": HOWEVER MANY ELEMENTS. Below the heap's end the world is as it was. (LAID: no walk: one application.) -/
theorem Tryz.strings_Join (bk o c : Nat) (xs : List ByteArray) (sep : ByteArray) (w : World) (hcells : ∀ (j : Nat) x, xs[j]? = some x → w.cell? ⟨bk, o + j, none⟩ = some (.string x)) (hbk : bk < w.heap.size) (hN : xs.length ≤ 140737488355328) (hcap : xs.length ≤ c) (hlen : (Lib.join (xs.map (·.data.toList)) sep.data.toList).length ≤ 140737488355328) :
    Calls Tryz.prog 75 #[.slice (some ⟨bk, o, none⟩) xs.length c, .string sep] w fun e w' => e = .returned (.string ⟨(Lib.join (xs.map (·.data.toList)) sep.data.toList).toArray⟩) ∧ Below w.heap.size w w' := Any.strings_Join Tryz.lays156 Tryz.Builder_Extra_156 bk o c xs sep w hcells hbk hN hcap hlen
def Tryz.lays146_ren : Go.Shelf.Ren := ⟨fun | 146 => 80 | 221 => 99 | 268 => 118 | 138 => 119 | 143 => 120 | 195 => 131 | 197 => 132 | 218 => 133 | 219 => 98 | 260 => 151 | 217 => 114 | 225 => 115 | 224 => 116 | 267 => 117 | 266 => 129 | 314 => 130 | n => n, fun | 9 => 9 | 31 => 88 | 3 => 3 | 4 => 4 | 0 => 0 | 105 => 131 | 21 => 21 | 5 => 5 | 46 => 110 | 119 => 164 | 139 => 167 | 138 => 166 | 146 => 128 | 51 => 127 | n => n, fun | 1 => 0 | 3 => 2 | 4 => 3 | n => n⟩
theorem Tryz.lays146 : Go.Proofs.Lays.n146 Tryz.prog Tryz.lays146_ren := {
  mixed := by kernel_rfl
  f138 := Tryz.func119.trans (congrArg some (by kernel_rfl))
  f143 := Tryz.func120.trans (congrArg some (by kernel_rfl))
  f146 := Tryz.func80.trans (congrArg some (by kernel_rfl))
  f195 := Tryz.func131.trans (congrArg some (by kernel_rfl))
  f197 := Tryz.func132.trans (congrArg some (by kernel_rfl))
  f217 := Tryz.func114.trans (congrArg some (by kernel_rfl))
  f218 := Tryz.func133.trans (congrArg some (by kernel_rfl))
  f219 := Tryz.func98.trans (congrArg some (by kernel_rfl))
  f221 := Tryz.func99.trans (congrArg some (by kernel_rfl))
  f224 := Tryz.func116.trans (congrArg some (by kernel_rfl))
  f225 := Tryz.func115.trans (congrArg some (by kernel_rfl))
  f260 := Tryz.func151.trans (congrArg some (by kernel_rfl))
  f266 := Tryz.func129.trans (congrArg some (by kernel_rfl))
  f267 := Tryz.func117.trans (congrArg some (by kernel_rfl))
  f268 := Tryz.func118.trans (congrArg some (by kernel_rfl))
  f314 := Tryz.func130.trans (congrArg some (by kernel_rfl))
  t0 := Tryz.underlying0
  a0 := Tryz.isAgg0
  z0 := Tryz.sizeOf0
  v0 := Tryz.zeroValue0
  t3 := Tryz.underlying3
  a3 := Tryz.isAgg3
  z3 := Tryz.sizeOf3
  v3 := Tryz.zeroValue3
  t4 := Tryz.underlying4
  a4 := Tryz.isAgg4
  z4 := Tryz.sizeOf4
  v4 := Tryz.zeroValue4
  t5 := Tryz.underlying5
  a5 := Tryz.isAgg5
  z5 := Tryz.sizeOf5
  v5 := Tryz.zeroValue5
  t9 := Tryz.underlying9
  a9 := Tryz.isAgg9
  z9 := Tryz.sizeOf9
  v9 := Tryz.zeroValue9
  t21 := Tryz.underlying21
  a21 := Tryz.isAgg21
  z21 := Tryz.sizeOf21
  v21 := Tryz.zeroValue21
  t31 := Tryz.underlying88
  a31 := Tryz.isAgg88
  z31 := Tryz.sizeOf88
  v31 := Tryz.zeroValue88
  t46 := Tryz.underlying110
  a46 := Tryz.isAgg110
  z46 := Tryz.sizeOf110
  v46 := Tryz.zeroValue110
  t51 := Tryz.underlying127
  a51 := Tryz.isAgg127
  z51 := Tryz.sizeOf127
  v51 := Tryz.zeroValue127
  t105 := Tryz.underlying131
  a105 := Tryz.isAgg131
  z105 := Tryz.sizeOf131
  v105 := Tryz.zeroValue131
  t119 := Tryz.underlying164
  a119 := Tryz.isAgg164
  z119 := Tryz.sizeOf164
  t138 := Tryz.underlying166
  a138 := Tryz.isAgg166
  z138 := Tryz.sizeOf166
  v138 := Tryz.zeroValue166
  t139 := Tryz.underlying167
  a139 := Tryz.isAgg167
  z139 := Tryz.sizeOf167
  v139 := Tryz.zeroValue167
  t146 := Tryz.underlying128
  a146 := Tryz.isAgg128
  z146 := Tryz.sizeOf128
  v146 := Tryz.zeroValue128
  g1 := by kernel_rfl
  g3 := by kernel_rfl
  g4 := by kernel_rfl }
open Go.RowKit Go.Lib in
/-- strings.Split. (LAID: no walk: one application.) -/
theorem Tryz.strings_Split (s sep : ByteArray) (m : Int) (w : World) (hs : s.size < 4294967281) (hm : w.cell? ⟨0, 0, none⟩ = some (.int .i64 m)) (h1 : 1 ≤ sep.size) :
    Calls Tryz.prog 80 #[.string s, .string sep] w fun e w' =>
      e = .returned (.slice (some ⟨w.heap.size, 0, none⟩) (Lib.countB s sep + 1) (Lib.countB s sep + 1)) ∧ w' = w.alloc (.cells ((Lib.splitB sep 0 (Lib.countB s sep) s).map Value.string).toArray 9) := Any.strings_Split Tryz.lays146 (by kernel_rfl) s sep m w hs hm h1
end Go.Proofs
end
