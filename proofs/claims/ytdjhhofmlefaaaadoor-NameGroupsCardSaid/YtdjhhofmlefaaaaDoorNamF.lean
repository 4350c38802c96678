/-
  Contracts of name.Format and of the specification's Format. Condition: at most 1000 pairs of strings of at most 1000000 bytes.
-/
import Derived.Test.YtdjhhofmlefaaaaDoorNamB
set_option linter.unusedVariables false
set_option linter.unusedSimpArgs false
set_option linter.unnecessarySimpa false
namespace Go.Proofs.YtdjhhofmlefaaaaDoor
open Go.RowKit Go.PlainAid

def fmtK (l : List Pr) (k : Nat) : List UInt8 := barC ((l.take k).map fmtC)
theorem fmtK_first (l : List Pr) (h : 0 < l.length) : fmtK l (0 + 1) = fmtK l 0 ++ (lowS (prAt l 0).1).data.toList ++ [61] ++ (escS (foldS (prAt l 0).2)).data.toList := by
  unfold fmtK
  rw [pr_take l 0 h, List.take_zero, List.nil_append, List.map_cons, List.map_nil]
  show fmtC (prAt l 0) = _
  unfold fmtC escS; simp [barC, ofB_data]
theorem fmtK_next (l : List Pr) (k : Nat) (h : k < l.length) (h0 : 0 < k) : fmtK l (k + 1) = fmtK l k ++ [44] ++ (lowS (prAt l k).1).data.toList ++ [61] ++ (escS (foldS (prAt l k).2)).data.toList := by
  unfold fmtK
  rw [pr_take l k h, List.map_append, List.map_cons, List.map_nil, barC_snoc _ _ (by
    intro e; have := congrArg List.length e; rw [List.length_map, List.length_take, List.length_nil] at this; omega)]
  unfold fmtC escS; simp [ofB_data]
theorem barC_len (m : Nat) : ∀ l : List (List UInt8), (∀ p ∈ l, p.length ≤ m) → (barC l).length ≤ l.length * (m + 1)
  | [], _ => by simp [barC]
  | [p], h => by have := h p (by simp); simp [barC]; omega
  | p :: q :: r, h => by
    have h1 := h p (by simp)
    have ih := barC_len m (q :: r) (fun x hx => h x (by simp at hx ⊢; exact .inr hx))
    rw [show barC (p :: q :: r) = p ++ 44 :: barC (q :: r) from rfl, List.length_append, List.length_cons, List.length_cons, Nat.add_mul]
    omega
theorem fmtC_len (p : Pr) : (fmtC p).length ≤ p.1.size + 1 + 2 * p.2.size := by
  unfold fmtC
  have h1 := escV_len (foldS p.2).data.toList
  rw [← Lib.size_eq] at h1
  have h2 := foldS_size p.2
  have h3 : (lowS p.1).data.toList.length = p.1.size := by rw [← Lib.size_eq, lowS_size]
  rw [List.length_append, List.length_cons, h3]; omega
/-- no pair is too large -/
def Small (l : List Pr) : Prop := l.length ≤ 1000 ∧ ∀ j, j < l.length → (prAt l j).1.size ≤ 1000000 ∧ (prAt l j).2.size ≤ 1000000
theorem prAt_mem (l : List Pr) {p : Pr} (h : p ∈ l) : ∃ j, j < l.length ∧ prAt l j = p := by
  obtain ⟨j, hj, rfl⟩ := List.getElem_of_mem h
  exact ⟨j, hj, by unfold prAt; rw [List.getD_eq_getElem?_getD, List.getElem?_eq_getElem hj]; rfl⟩
theorem mem_prAt (l : List Pr) {j : Nat} (h : j < l.length) : prAt l j ∈ l := by
  unfold prAt; rw [List.getD_eq_getElem?_getD, List.getElem?_eq_getElem h]; exact List.getElem_mem h
theorem small_of (l : List Pr) (h1 : l.length ≤ 1000) (h : ∀ p ∈ l, p.1.size ≤ 1000000 ∧ p.2.size ≤ 1000000) : Small l := ⟨h1, fun j hj => h _ (mem_prAt l hj)⟩
theorem Small.mem {l : List Pr} (h : Small l) : ∀ p ∈ l, p.1.size ≤ 1000000 ∧ p.2.size ≤ 1000000 := fun p hp => by
  obtain ⟨j, hj, rfl⟩ := prAt_mem l hp
  exact h.2 j hj
theorem fmtK_len {l : List Pr} (h : Small l) (k : Nat) : (fmtK l k).length ≤ 4000000000 := by
  have h1 := barC_len 3000001 ((l.take k).map fmtC) (fun p hq => by
    obtain ⟨q, hq1, rfl⟩ := List.mem_map.1 hq
    have h2 := h.mem q (List.mem_of_mem_take hq1)
    have h3 := fmtC_len q
    omega)
  have h2 : ((l.take k).map fmtC).length ≤ 1000 := by have := h.1; simp; omega
  unfold fmtK
  have := Nat.mul_le_mul_right (3000001 + 1) h2
  omega
theorem fmtFirst_step {l : List Pr} {k : Nat} (h : fmtFirst (l.take k) = 0) (hk : k < l.length) : (prE (prAt l k) = 0 → fmtFirst (l.take (k + 1)) = 0) ∧ (prE (prAt l k) ≠ 0 → fmtE l = prE (prAt l k) ∧ fmtV l = ByteArray.empty) := by
  have hall := fmtFirst_all h
  have happ : ∀ (a b : List Pr), fmtFirst a = 0 → fmtFirst (a ++ b) = fmtFirst b := fun a b ha => by
    induction a with
    | nil => rfl
    | cons p r ih =>
      unfold fmtFirst at ha
      by_cases hp : prE p = 0
      · rw [if_pos hp] at ha
        show (if prE p = 0 then fmtFirst (r ++ b) else prE p) = _
        rw [if_pos hp, ih ha]
      · rw [if_neg hp] at ha; exact absurd ha hp
  refine ⟨fun e => ?_, fun e => ?_⟩
  · rw [pr_take l k hk, happ _ _ h]; unfold fmtFirst; rw [if_pos e]; rfl
  · have h2 : l = l.take k ++ prAt l k :: l.drop (k + 1) := by
      have := pr_take l k hk
      conv => lhs; rw [← List.take_append_drop (k + 1) l, this]
      simp
    have h3 : fmtFirst l = prE (prAt l k) := by
      rw [h2, happ _ _ h]; unfold fmtFirst
      rw [← h2, if_neg e]
    have h4 : fmtE l = prE (prAt l k) := by unfold fmtE; rw [h3, if_neg e]
    exact ⟨h4, by unfold fmtV; rw [h4, if_neg e]⟩
theorem fmt_end {l : List Pr} (h : fmtFirst (l.take l.length) = 0) : (8 < l.length → fmtE l = 3 ∧ fmtV l = ByteArray.empty) ∧ (¬ 8 < l.length → fmtE l = 0 ∧ fmtV l = ofB (fmtK l l.length)) := by
  rw [List.take_length] at h
  refine ⟨fun hl => ?_, fun hl => ?_⟩
  · have h4 : fmtE l = 3 := by unfold fmtE; rw [if_pos h, if_pos hl]
    exact ⟨h4, by unfold fmtV; rw [h4]; rfl⟩
  · have h4 : fmtE l = 0 := by unfold fmtE; rw [if_pos h, if_neg hl]
    exact ⟨h4, by unfold fmtV fmtK; rw [if_pos h4, List.take_length]⟩

theorem B7lt {B b : Nat} {l : List UInt8} {w : World} (h : Bld B b l w) : b < w.heap.size := by
  rcases h with h | h <;> exact h.lt

set_option maxRecDepth 100000 in
set_option maxHeartbeats 8000000 in
theorem format_s (ao : Option Addr) (n cap : Nat) (l : List Pr) (w : World) (h : PairsAt w ao n cap l) (hsm : Small l) :
    Calls Tryd.prog 17 #[.slice ao n cap] w fun e w' => e = .returned (.tuple #[.string (fmtV l), .int .i64 (fmtE l)]) ∧ Below w.heap.size w w' := by
  obtain ⟨h1, h2, h3, h4⟩ := h
  subst h1
  have HS := Lib.hid hsm
  have hl0 := hsm.1
  clear hsm
  have HN := Lib.hid (bld_new w)
  have H4 := Lib.hid h4; clear h4
  go_enter Tryd.func17, Tryd.ntmps17
  go_wp2
  go_loopw [10] (fun i wr => ∃ k : Nat, k ≤ l.length ∧ i = .int .i64 k ∧ Bld w.heap.size w.heap.size (fmtK l k) wr ∧ Below w.heap.size w wr ∧ w.heap.size < wr.heap.size ∧ Hid (fmtFirst (l.take k) = 0))
    (fun i _ => l.length - (intOf i).toNat)
  case atStart => exact ⟨0, Nat.zero_le _, rfl, HN.out, (Below.refl _ _).alloc (Nat.le_refl _) _, by simp, Lib.hid rfl⟩
  case round =>
    obtain ⟨k, hk, rfl, HBd, hbel, hsz, HF⟩ := hrel
    have hln := fmtK_len HS.out k
    by_cases hlt : k < l.length
    · obtain ⟨b, off, rfl, hs⟩ := H4.out (by omega)
      obtain ⟨hc1, hc2⟩ := (hs.below hbel hs.1).2 k hlt
      obtain ⟨hpk, hpv⟩ := HS.out.2 k hlt
      have HST := Lib.hid (fmtFirst_step HF.out hlt)
      have HK1 := Lib.hid (fun (_ : k = 0) => fmtK_first l (by omega))
      have HK2 := Lib.hid (fun (h0 : 0 < k) => fmtK_next l k hlt h0)
      obtain ⟨⟨p, q⟩, hpe⟩ : ∃ p, p = prAt l k := ⟨_, rfl⟩
      have HPE := Lib.hid hpe
      rw [← hpe] at hc1 hc2 hpk hpv HST HK2
      simp only [] at hc1 hc2 hpk hpv
      clear hs hpe
      have hfz := foldS_size q
      have hlz := lowS_size p
      have hez := escS_size (foldS q)
      go_wp2_with fail
      refine (check_s (p, q) _ (by simp only []; omega) (by simp only []; omega)).mono ?_
      rintro e w1 ⟨rfl, hb1⟩
      have hbx := (pbox_new wr (p, q)).below hb1
      have hbl := (below_new (w := wr) (.cells #[.string p, .string q] 36))
      have hb01 := below_next hbl hb1
      have L1 := hbel.trans (hb01.mono hbel.size)
      have B1 := HBd.below hb01
      by_cases hE : prE (p, q) = 0
      · have HFN := Lib.hid (HST.out.1 hE)
        rw [hE]
        clear hE HST hc1 hc2
        obtain ⟨d0, d1⟩ := hbx.cells
        simp only [] at d0 d1
        by_cases hk0 : k = 0
        · have HK := Lib.hid (show fmtK l (k + 1) = fmtK l k ++ (lowS p).data.toList ++ [61] ++ (escS (foldS q)).data.toList by
            have := HK1.out hk0
            subst hk0
            rw [← HPE.out] at this
            exact this)
          have hd0 : decide (0 < k) = false := by simp; omega
          clear hk0 HK1 HK2
          clear d1
          go_wp2_with fail
          refine (lower_s p _ (by omega)).mono ?_
          rintro e w2 ⟨rfl, hb2⟩
          have B2 := B1.below hb2
          have L2 := L1.trans (hb2.mono L1.size)
          have X2 := hbx.below hb2
          clear d0
          go_wp2_with fail
          refine (writeString_t w.heap.size w.heap.size _ _ _ B2 (by (try simp only [List.length_append, List.length_cons, List.length_nil]); omega) L2.size).mono ?_
          rintro e w3 ⟨rfl, B3, hb3, hk3⟩
          have L3 := L2.trans hb3
          have X3 := hk3.box X2
          go_wp2_with fail
          refine (writeByte_t w.heap.size w.heap.size _ 61 61 _ B3 rfl (by simp only [List.length_append, List.length_cons, List.length_nil, ← Lib.size_eq]; omega) L3.size).mono ?_
          rintro e w4 ⟨rfl, B4, hb4, hk4⟩
          have L4 := L3.trans hb4
          have X4 := hk4.box X3
          obtain ⟨d0, d1⟩ := X4.cells
          simp only [] at d0 d1
          clear d0
          go_wp2_with fail
          refine (fold_s q _ (by omega)).mono ?_
          rintro e w5 ⟨rfl, hb5⟩
          have B5 := B4.below hb5
          have L5 := L4.trans (hb5.mono L4.size)
          clear d1
          go_wp2_with fail
          refine (escaped_s (foldS q) _ (by omega)).mono ?_
          rintro e w6 ⟨rfl, hb6⟩
          have B6 := B5.below hb6
          have L6 := L5.trans (hb6.mono L5.size)
          go_wp2_with fail
          refine (writeString_t w.heap.size w.heap.size _ _ _ B6 (by simp only [List.length_append, List.length_cons, List.length_nil, ← Lib.size_eq]; omega) L6.size).mono ?_
          rintro e w7 ⟨rfl, B7, hb7, hk7⟩
          have L7 := L6.trans hb7
          have hsz7 : w.heap.size < w7.heap.size := B7lt B7
          go_wp2
          go_roundw
          case rel => exact ⟨k + 1, by omega, by go_num, by rw [HK.out]; exact B7, L7, hsz7, HFN⟩
          case measure => simp [intOf]; omega
        · have HK := Lib.hid (HK2.out (by omega))
          have hd0 : decide (0 < k) = true := by simp; omega
          clear hk0 HK1 HK2
          go_wp2_with fail
          refine (writeByte_t w.heap.size w.heap.size _ 44 44 _ B1 rfl (by omega) L1.size).mono ?_
          rintro e w0 ⟨rfl, B0, hb0, hk0⟩
          have L0 := L1.trans hb0
          have X0 := hk0.box hbx
          clear d0 d1
          obtain ⟨d0, d1⟩ := X0.cells
          simp only [] at d0 d1
          clear d1
          go_wp2_with fail
          refine (lower_s p _ (by omega)).mono ?_
          rintro e w2 ⟨rfl, hb2⟩
          have B2 := B0.below hb2
          have L2 := L0.trans (hb2.mono L0.size)
          have X2 := X0.below hb2
          clear d0
          go_wp2_with fail
          refine (writeString_t w.heap.size w.heap.size _ _ _ B2 (by (try simp only [List.length_append, List.length_cons, List.length_nil]); omega) L2.size).mono ?_
          rintro e w3 ⟨rfl, B3, hb3, hk3⟩
          have L3 := L2.trans hb3
          have X3 := hk3.box X2
          go_wp2_with fail
          refine (writeByte_t w.heap.size w.heap.size _ 61 61 _ B3 rfl (by simp only [List.length_append, List.length_cons, List.length_nil, ← Lib.size_eq]; omega) L3.size).mono ?_
          rintro e w4 ⟨rfl, B4, hb4, hk4⟩
          have L4 := L3.trans hb4
          have X4 := hk4.box X3
          obtain ⟨d0, d1⟩ := X4.cells
          simp only [] at d0 d1
          clear d0
          go_wp2_with fail
          refine (fold_s q _ (by omega)).mono ?_
          rintro e w5 ⟨rfl, hb5⟩
          have B5 := B4.below hb5
          have L5 := L4.trans (hb5.mono L4.size)
          clear d1
          go_wp2_with fail
          refine (escaped_s (foldS q) _ (by omega)).mono ?_
          rintro e w6 ⟨rfl, hb6⟩
          have B6 := B5.below hb6
          have L6 := L5.trans (hb6.mono L5.size)
          go_wp2_with fail
          refine (writeString_t w.heap.size w.heap.size _ _ _ B6 (by simp only [List.length_append, List.length_cons, List.length_nil, ← Lib.size_eq]; omega) L6.size).mono ?_
          rintro e w7 ⟨rfl, B7, hb7, hk7⟩
          have L7 := L6.trans hb7
          have hsz7 : w.heap.size < w7.heap.size := B7lt B7
          go_wp2
          go_roundw
          case rel => exact ⟨k + 1, by omega, by go_num, by rw [HK.out]; exact B7, L7, hsz7, HFN⟩
          case measure => simp [intOf]; omega
      · have HFN := Lib.hid (HST.out.2 hE)
        have q0 : (prE (p, q) != 0) = true := by simpa using hE
        clear hE HST hc1 hc2
        generalize prE (p, q) = e0 at q0 HFN ⊢
        go_wp2
        go_ret2
        exact ⟨by rw [HFN.out.1, HFN.out.2]; rfl, L1⟩
    · have HT := Lib.hid (show k = l.length by omega)
      rw [HT.out] at HBd HF
      by_cases h8 : 8 < l.length
      · have HE := Lib.hid ((fmt_end HF.out).1 h8)
        have hd8 : decide ((8 : Int) < (l.length : Int)) = true := decide_eq_true (by omega)
        go_wp2
        go_ret2
        exact ⟨by rw [HE.out.1, HE.out.2]; rfl, hbel⟩
      · have HE := Lib.hid ((fmt_end HF.out).2 h8)
        have hd8 : decide ((8 : Int) < (l.length : Int)) = false := decide_eq_false (by omega)
        go_wp2_with (go_at_call 45; refine (string_s w.heap.size w.heap.size _ _ HBd hbel.size).mono ?_; rintro e w1 ⟨rfl, hb1⟩)
        go_ret2
        exact ⟨by rw [HE.out.1, HE.out.2]; rfl, hbel.trans hb1⟩

end Go.Proofs.YtdjhhofmlefaaaaDoor
