/-
  Texts of the schema layer and of those beneath it, joined: NamF, NamG, NamSame, NamH, NamI, NamJ, NamU, NamW, NamX, NamY, NamZ, NamQ, ShelfR, NamO, NamT, NamD, SchStrs. Conditions stand at each contract.
-/
import Derived.Deep.RegionHeld3
import Derived.WalkSmall
import Derived.BigQuiet
import Derived.Deep.QuietTactic
import Derived.Laws.AppendOwnNone
import Derived.ArgAppend
import Derived.Deep.AppendSrc
import Derived.Lib.Overlaps
import Derived.Lib.AppendZerosOnto
import Derived.Laws.Externs
import Derived.Laws.IdiomCopy
import Derived.Deep.RegionLaw
import Derived.Shelf.SlicesQ.Reverse
import Derived.WalkLawsBesides
import Derived.Lib.SliceRun
import Derived.StillTailTactics
import Derived.BigRegion
import Derived.Deep.AppendLies
import Derived.Test.YtmmdaegdkikkpaaGreatDoorProg
import Derived.Test.YtmmdaegdkikkpaaGreatDoorP02
import Derived.Test.YtmmdaegdkikkpaaGreatDoorP06
import Derived.Test.YtmmdaegdkikkpaaGreatDoorP07
set_option linter.unusedVariables false
set_option linter.unusedSimpArgs false
set_option linter.unnecessarySimpa false

section
/-
  Contracts of name.Format and of the specification's Format. Condition: at most 1000 pairs of strings of at most 1000000 bytes.
-/
set_option maxRecDepth 100000
namespace Go.Proofs.YtmmdaegdkikkpaaGreatDoor
namespace Nam
open Go.RowKit Go.PlainAid
def fmtK (l : List Pr) (k : Nat) : List UInt8 := barC ((l.take k).map fmtC)
theorem fmtK_first (l : List Pr) (h : 0 < l.length) : fmtK l (0 + 1) = fmtK l 0 ++ (lowS (prAt l 0).1).data.toList ++ [61] ++ (escS (foldS (prAt l 0).2)).data.toList := by
  unfold fmtK
  rw [pr_take l 0 h, List.take_zero, List.nil_append, List.map_cons, List.map_nil]
  show fmtC (prAt l 0) = _
  unfold fmtC escS; simp [barC, ofB_data]
theorem fmtK_next (l : List Pr) (k : Nat) (h : k < l.length) (h0 : 0 < k) : fmtK l (k + 1) = fmtK l k ++ [44] ++ (lowS (prAt l k).1).data.toList ++ [61] ++ (escS (foldS (prAt l k).2)).data.toList := by
  unfold fmtK
  rw [pr_take l k h, List.map_append, List.map_cons, List.map_nil, barC_snoc _ _ (by
    intro e; have := congrArg List.length e; rw [List.length_map, List.length_take, List.length_nil] at this; omega)]
  unfold fmtC escS; simp [ofB_data]
theorem barC_len (m : Nat) : ∀ l : List (List UInt8), (∀ p ∈ l, p.length ≤ m) → (barC l).length ≤ l.length * (m + 1)
  | [], _ => by simp [barC]
  | [p], h => by have := h p (by simp); simp [barC]; omega
  | p :: q :: r, h => by
    have h1 := h p (by simp)
    have ih := barC_len m (q :: r) (fun x hx => h x (by simp at hx ⊢; exact .inr hx))
    rw [show barC (p :: q :: r) = p ++ 44 :: barC (q :: r) from rfl, List.length_append, List.length_cons, List.length_cons, Nat.add_mul]
    omega
theorem fmtC_len (p : Pr) : (fmtC p).length ≤ p.1.size + 1 + 2 * p.2.size := by
  unfold fmtC
  have h1 := escV_len (foldS p.2).data.toList
  rw [← Lib.size_eq] at h1
  have h2 := foldS_size p.2
  have h3 : (lowS p.1).data.toList.length = p.1.size := by rw [← Lib.size_eq, lowS_size]
  rw [List.length_append, List.length_cons, h3]; omega
/-- no pair is too large -/
def Small (l : List Pr) : Prop := l.length ≤ 1000 ∧ ∀ j, j < l.length → (prAt l j).1.size ≤ 1000000 ∧ (prAt l j).2.size ≤ 1000000
theorem prAt_mem (l : List Pr) {p : Pr} (h : p ∈ l) : ∃ j, j < l.length ∧ prAt l j = p := by
  obtain ⟨j, hj, rfl⟩ := List.getElem_of_mem h
  exact ⟨j, hj, by unfold prAt; rw [List.getD_eq_getElem?_getD, List.getElem?_eq_getElem hj]; rfl⟩
theorem mem_prAt (l : List Pr) {j : Nat} (h : j < l.length) : prAt l j ∈ l := by
  unfold prAt; rw [List.getD_eq_getElem?_getD, List.getElem?_eq_getElem h]; exact List.getElem_mem h
theorem small_of (l : List Pr) (h1 : l.length ≤ 1000) (h : ∀ p ∈ l, p.1.size ≤ 1000000 ∧ p.2.size ≤ 1000000) : Small l := ⟨h1, fun j hj => h _ (mem_prAt l hj)⟩
theorem Small.mem {l : List Pr} (h : Small l) : ∀ p ∈ l, p.1.size ≤ 1000000 ∧ p.2.size ≤ 1000000 := fun p hp => by
  obtain ⟨j, hj, rfl⟩ := prAt_mem l hp
  exact h.2 j hj
theorem fmtK_len {l : List Pr} (h : Small l) (k : Nat) : (fmtK l k).length ≤ 4000000000 := by
  have h1 := barC_len 3000001 ((l.take k).map fmtC) (fun p hq => by
    obtain ⟨q, hq1, rfl⟩ := List.mem_map.1 hq
    have h2 := h.mem q (List.mem_of_mem_take hq1)
    have h3 := fmtC_len q
    omega)
  have h2 : ((l.take k).map fmtC).length ≤ 1000 := by have := h.1; simp; omega
  unfold fmtK
  have := Nat.mul_le_mul_right (3000001 + 1) h2
  omega
theorem fmtFirst_step {l : List Pr} {k : Nat} (h : fmtFirst (l.take k) = 0) (hk : k < l.length) : (prE (prAt l k) = 0 → fmtFirst (l.take (k + 1)) = 0) ∧ (prE (prAt l k) ≠ 0 → fmtE l = prE (prAt l k) ∧ fmtV l = ByteArray.empty) := by
  have hall := fmtFirst_all h
  have happ : ∀ (a b : List Pr), fmtFirst a = 0 → fmtFirst (a ++ b) = fmtFirst b := fun a b ha => by
    induction a with
    | nil => rfl
    | cons p r ih =>
      unfold fmtFirst at ha
      by_cases hp : prE p = 0
      · rw [if_pos hp] at ha
        show (if prE p = 0 then fmtFirst (r ++ b) else prE p) = _
        rw [if_pos hp, ih ha]
      · rw [if_neg hp] at ha; exact absurd ha hp
  refine ⟨fun e => ?_, fun e => ?_⟩
  · rw [pr_take l k hk, happ _ _ h]; unfold fmtFirst; rw [if_pos e]; rfl
  · have h2 : l = l.take k ++ prAt l k :: l.drop (k + 1) := by
      have := pr_take l k hk
      conv => lhs; rw [← List.take_append_drop (k + 1) l, this]
      simp
    have h3 : fmtFirst l = prE (prAt l k) := by
      rw [h2, happ _ _ h]; unfold fmtFirst
      rw [← h2, if_neg e]
    have h4 : fmtE l = prE (prAt l k) := by unfold fmtE; rw [h3, if_neg e]
    exact ⟨h4, by unfold fmtV; rw [h4, if_neg e]⟩
theorem fmt_end {l : List Pr} (h : fmtFirst (l.take l.length) = 0) : (8 < l.length → fmtE l = 3 ∧ fmtV l = ByteArray.empty) ∧ (¬ 8 < l.length → fmtE l = 0 ∧ fmtV l = ofB (fmtK l l.length)) := by
  rw [List.take_length] at h
  refine ⟨fun hl => ?_, fun hl => ?_⟩
  · have h4 : fmtE l = 3 := by unfold fmtE; rw [if_pos h, if_pos hl]
    exact ⟨h4, by unfold fmtV; rw [h4]; rfl⟩
  · have h4 : fmtE l = 0 := by unfold fmtE; rw [if_pos h, if_neg hl]
    exact ⟨h4, by unfold fmtV fmtK; rw [if_pos h4, List.take_length]⟩
theorem B7lt {B b : Nat} {l : List UInt8} {w : World} (h : Bld B b l w) : b < w.heap.size := by
  rcases h with h | h <;> exact h.lt
set_option maxRecDepth 100000 in
set_option maxHeartbeats 8000000 in
theorem format_s (ao : Option Addr) (n cap : Nat) (l : List Pr) (w : World) (h : PairsAt w ao n cap l) (hsm : Small l) :
    Calls Tryz.prog 132 #[.slice ao n cap] w fun e w' => e = .returned (.tuple #[.string (fmtV l), .int .i64 (fmtE l)]) ∧ Below w.heap.size w w' := by
  obtain ⟨h1, h2, h3, h4⟩ := h
  subst h1
  have HS := Lib.hid hsm
  have hl0 := hsm.1
  clear hsm
  have HN := Lib.hid (bld_new w)
  have H4 := Lib.hid h4; clear h4
  go_enter Tryz.func132, Tryz.ntmps132
  go_wp2
  go_loopw [10] (fun i wr => ∃ k : Nat, k ≤ l.length ∧ i = .int .i64 k ∧ Bld w.heap.size w.heap.size (fmtK l k) wr ∧ Below w.heap.size w wr ∧ w.heap.size < wr.heap.size ∧ Hid (fmtFirst (l.take k) = 0))
    (fun i _ => l.length - (intOf i).toNat)
  case atStart => exact ⟨0, Nat.zero_le _, rfl, HN.out, (Below.refl _ _).alloc (Nat.le_refl _) _, by simp, Lib.hid rfl⟩
  case round =>
    obtain ⟨k, hk, rfl, HBd, hbel, hsz, HF⟩ := hrel
    have hln := fmtK_len HS.out k
    by_cases hlt : k < l.length
    · obtain ⟨b, off, rfl, hs⟩ := H4.out (by omega)
      obtain ⟨hc1, hc2⟩ := (hs.below hbel hs.1).2 k hlt
      obtain ⟨hpk, hpv⟩ := HS.out.2 k hlt
      have HST := Lib.hid (fmtFirst_step HF.out hlt)
      have HK1 := Lib.hid (fun (_ : k = 0) => fmtK_first l (by omega))
      have HK2 := Lib.hid (fun (h0 : 0 < k) => fmtK_next l k hlt h0)
      obtain ⟨⟨p, q⟩, hpe⟩ : ∃ p, p = prAt l k := ⟨_, rfl⟩
      have HPE := Lib.hid hpe
      rw [← hpe] at hc1 hc2 hpk hpv HST HK2
      simp only [] at hc1 hc2 hpk hpv
      clear hs hpe
      have hfz := foldS_size q
      have hlz := lowS_size p
      have hez := escS_size (foldS q)
      go_wp2_with fail
      refine (check_s (p, q) _ (by simp only []; omega) (by simp only []; omega)).mono ?_
      rintro e w1 ⟨rfl, hb1⟩
      have hbx := (pbox_new wr (p, q)).below hb1
      have hbl := (below_new (w := wr) (.cells #[.string p, .string q] 192))
      have hb01 := below_next hbl hb1
      have L1 := hbel.trans (hb01.mono hbel.size)
      have B1 := HBd.below hb01
      by_cases hE : prE (p, q) = 0
      · have HFN := Lib.hid (HST.out.1 hE)
        rw [hE]
        clear hE HST hc1 hc2
        obtain ⟨d0, d1⟩ := hbx.cells
        simp only [] at d0 d1
        by_cases hk0 : k = 0
        · have HK := Lib.hid (show fmtK l (k + 1) = fmtK l k ++ (lowS p).data.toList ++ [61] ++ (escS (foldS q)).data.toList by
            have := HK1.out hk0
            subst hk0
            rw [← HPE.out] at this
            exact this)
          have hd0 : decide (0 < k) = false := by simp; omega
          clear hk0 HK1 HK2
          clear d1
          go_wp2_with fail
          refine (lower_s p _ (by omega)).mono ?_
          rintro e w2 ⟨rfl, hb2⟩
          have B2 := B1.below hb2
          have L2 := L1.trans (hb2.mono L1.size)
          have X2 := hbx.below hb2
          clear d0
          go_wp2_with fail
          refine (writeString_t w.heap.size w.heap.size _ _ _ B2 (by (try simp only [List.length_append, List.length_cons, List.length_nil]); omega) L2.size).mono ?_
          rintro e w3 ⟨rfl, B3, hb3, hk3⟩
          have L3 := L2.trans hb3
          have X3 := hk3.box X2
          go_wp2_with fail
          refine (writeByte_t w.heap.size w.heap.size _ 61 61 _ B3 rfl (by simp only [List.length_append, List.length_cons, List.length_nil, ← Lib.size_eq]; omega) L3.size).mono ?_
          rintro e w4 ⟨rfl, B4, hb4, hk4⟩
          have L4 := L3.trans hb4
          have X4 := hk4.box X3
          obtain ⟨d0, d1⟩ := X4.cells
          simp only [] at d0 d1
          clear d0
          go_wp2_with fail
          refine (fold_s q _ (by omega)).mono ?_
          rintro e w5 ⟨rfl, hb5⟩
          have B5 := B4.below hb5
          have L5 := L4.trans (hb5.mono L4.size)
          clear d1
          go_wp2_with fail
          refine (escaped_s (foldS q) _ (by omega)).mono ?_
          rintro e w6 ⟨rfl, hb6⟩
          have B6 := B5.below hb6
          have L6 := L5.trans (hb6.mono L5.size)
          go_wp2_with fail
          refine (writeString_t w.heap.size w.heap.size _ _ _ B6 (by simp only [List.length_append, List.length_cons, List.length_nil, ← Lib.size_eq]; omega) L6.size).mono ?_
          rintro e w7 ⟨rfl, B7, hb7, hk7⟩
          have L7 := L6.trans hb7
          have hsz7 : w.heap.size < w7.heap.size := B7lt B7
          go_wp2
          go_roundw
          case rel => exact ⟨k + 1, by omega, by go_num, by rw [HK.out]; exact B7, L7, hsz7, HFN⟩
          case measure => simp [intOf]; omega
        · have HK := Lib.hid (HK2.out (by omega))
          have hd0 : decide (0 < k) = true := by simp; omega
          clear hk0 HK1 HK2
          go_wp2_with fail
          refine (writeByte_t w.heap.size w.heap.size _ 44 44 _ B1 rfl (by omega) L1.size).mono ?_
          rintro e w0 ⟨rfl, B0, hb0, hk0⟩
          have L0 := L1.trans hb0
          have X0 := hk0.box hbx
          clear d0 d1
          obtain ⟨d0, d1⟩ := X0.cells
          simp only [] at d0 d1
          clear d1
          go_wp2_with fail
          refine (lower_s p _ (by omega)).mono ?_
          rintro e w2 ⟨rfl, hb2⟩
          have B2 := B0.below hb2
          have L2 := L0.trans (hb2.mono L0.size)
          have X2 := X0.below hb2
          clear d0
          go_wp2_with fail
          refine (writeString_t w.heap.size w.heap.size _ _ _ B2 (by (try simp only [List.length_append, List.length_cons, List.length_nil]); omega) L2.size).mono ?_
          rintro e w3 ⟨rfl, B3, hb3, hk3⟩
          have L3 := L2.trans hb3
          have X3 := hk3.box X2
          go_wp2_with fail
          refine (writeByte_t w.heap.size w.heap.size _ 61 61 _ B3 rfl (by simp only [List.length_append, List.length_cons, List.length_nil, ← Lib.size_eq]; omega) L3.size).mono ?_
          rintro e w4 ⟨rfl, B4, hb4, hk4⟩
          have L4 := L3.trans hb4
          have X4 := hk4.box X3
          obtain ⟨d0, d1⟩ := X4.cells
          simp only [] at d0 d1
          clear d0
          go_wp2_with fail
          refine (fold_s q _ (by omega)).mono ?_
          rintro e w5 ⟨rfl, hb5⟩
          have B5 := B4.below hb5
          have L5 := L4.trans (hb5.mono L4.size)
          clear d1
          go_wp2_with fail
          refine (escaped_s (foldS q) _ (by omega)).mono ?_
          rintro e w6 ⟨rfl, hb6⟩
          have B6 := B5.below hb6
          have L6 := L5.trans (hb6.mono L5.size)
          go_wp2_with fail
          refine (writeString_t w.heap.size w.heap.size _ _ _ B6 (by simp only [List.length_append, List.length_cons, List.length_nil, ← Lib.size_eq]; omega) L6.size).mono ?_
          rintro e w7 ⟨rfl, B7, hb7, hk7⟩
          have L7 := L6.trans hb7
          have hsz7 : w.heap.size < w7.heap.size := B7lt B7
          go_wp2
          go_roundw
          case rel => exact ⟨k + 1, by omega, by go_num, by rw [HK.out]; exact B7, L7, hsz7, HFN⟩
          case measure => simp [intOf]; omega
      · have HFN := Lib.hid (HST.out.2 hE)
        have q0 : (prE (p, q) != 0) = true := by simpa using hE
        clear hE HST hc1 hc2
        generalize prE (p, q) = e0 at q0 HFN ⊢
        go_wp2
        go_ret2
        exact ⟨by rw [HFN.out.1, HFN.out.2]; rfl, L1⟩
    · have HT := Lib.hid (show k = l.length by omega)
      rw [HT.out] at HBd HF
      by_cases h8 : 8 < l.length
      · have HE := Lib.hid ((fmt_end HF.out).1 h8)
        have hd8 : decide ((8 : Int) < (l.length : Int)) = true := decide_eq_true (by omega)
        go_wp2
        go_ret2
        exact ⟨by rw [HE.out.1, HE.out.2]; rfl, hbel⟩
      · have HE := Lib.hid ((fmt_end HF.out).2 h8)
        have hd8 : decide ((8 : Int) < (l.length : Int)) = false := decide_eq_false (by omega)
        go_wp2_with (go_at_call 59; refine (string_s w.heap.size w.heap.size _ _ HBd hbel.size).mono ?_; rintro e w1 ⟨rfl, hb1⟩)
        go_ret2
        exact ⟨by rw [HE.out.1, HE.out.2]; rfl, hbel.trans hb1⟩
end Nam
end Go.Proofs.YtmmdaegdkikkpaaGreatDoor
end

section
/-
  The contract of the specification's Format. Condition: at most 1000 pairs of strings of at most 1000000 bytes.
-/
set_option maxRecDepth 100000
namespace Go.Proofs.YtmmdaegdkikkpaaGreatDoor
namespace Nam
open Go.RowKit Go.PlainAid
end Nam
end Go.Proofs.YtmmdaegdkikkpaaGreatDoor
end

section
/-
  The contract of the specification's SamePairs. No condition.
-/
set_option maxRecDepth 100000
namespace Go.Proofs.YtmmdaegdkikkpaaGreatDoor
namespace Nam
open Go.RowKit Go.PlainAid
end Nam
end Go.Proofs.YtmmdaegdkikkpaaGreatDoor
end

section
/-
  Contracts of Clean, Valid, Depth, Parent and of what returns the components of a normal form, in the program and in the specification. Condition: at most 1000000 bytes.
-/
set_option maxRecDepth 100000
namespace Go.Proofs.YtmmdaegdkikkpaaGreatDoor
namespace Nam
open Go.RowKit Go.PlainAid
theorem prE_small {p : Pr} (h : prE p = 0) : p.1.size ≤ 64 ∧ p.2.size ≤ 256 := by
  obtain ⟨h1, h2⟩ := (prE_zero p).1 h
  unfold nameB at h1
  unfold cleanB at h2
  simp only [Bool.and_eq_true, decide_eq_true_eq] at h1 h2
  exact ⟨h1.1.1.2, h2.1.1.1.2⟩
theorem small_fine {l : List Pr} (h : ∀ p ∈ l, prE p = 0) (h8 : l.length ≤ 8) : Small l := small_of l (by omega) fun p hp => by have := prE_small (h p hp); omega
theorem small_parse (s : ByteArray) : Small (parseV s) := by
  by_cases h : parseE s = 0
  · exact small_fine (parseV_ok h).1 (parseV_ok h).2
  · unfold parseV; rw [if_neg h]; exact ⟨by simp, fun j hj => by simp at hj⟩
theorem str_eq (a b : ByteArray) : (a.toList == b.toList) = decide (a = b) := by
  rw [Lib.toList_data, Lib.toList_data, Bool.eq_iff_iff, beq_iff_eq, decide_eq_true_eq]
  exact ⟨fun h => by rw [← Lib.mk_data a, ← Lib.mk_data b, h], fun h => by rw [h]⟩
/-- what returns the components: a value that owns them, and whether the string is in normal form -/
def CompsPost (s : ByteArray) (w : World) (e : Ending) (w' : World) : Prop :=
  ∃ v, e = .returned (.tuple #[v, .bool (normB s)]) ∧ w'.ownsRow w.heap.size 192 2 v (compsV s).length (pcells (compsV s)) ∧ Below w.heap.size w w'
set_option maxRecDepth 100000 in
set_option maxHeartbeats 2000000 in
theorem components_s (s : ByteArray) (w : World) (hs : s.size ≤ 1000000) :
    Calls Tryz.prog 126 #[.string s] w (CompsPost s w) := by
  go_enter Tryz.func126, Tryz.ntmps126
  go_wp2_with fail
  refine (parse_s s _ hs).mono ?_
  rintro e w1 ⟨v, rfl, hown, hb⟩
  by_cases hE : parseE s = 0
  · obtain ⟨ao, cap, rfl, hat⟩ := pairs_own hown rfl
    have hF := fmt_parse_ok hE
    rw [hE]
    go_wp2_with fail
    refine (format_s ao _ cap (parseV s) _ hat (small_parse s)).mono ?_
    rintro e w2 ⟨rfl, hb2⟩
    rw [hF]
    have hown2 := own_below hown hb2
    have L2 := hb.trans (hb2.mono hb.size)
    by_cases hq : fmtV (parseV s) = s
    · have HN := Lib.hid (show normB s = true from (norm_iff s).2 ⟨hE, hq⟩)
      have HV := Lib.hid (show compsV s = parseV s by unfold compsV; rw [HN.out]; rfl)
      have q1 : ((fmtV (parseV s)).toList == s.toList) = true := by rw [str_eq]; exact decide_eq_true hq
      have q2 : ((fmtV (parseV s)).toList != s.toList) = false := by unfold bne; rw [q1]; rfl
      clear hq hE hF
      go_wp2
      go_ret2
      exact ⟨_, by rw [HN.out]; rfl, by rw [HV.out]; exact hown2, L2⟩
    · have HN := Lib.hid (show normB s = false by rw [Bool.eq_false_iff]; intro e; exact hq ((norm_iff s).1 e).2)
      have q1 : ((fmtV (parseV s)).toList == s.toList) = false := by rw [str_eq]; exact decide_eq_false hq
      have q2 : ((fmtV (parseV s)).toList != s.toList) = true := by unfold bne; rw [q1]; rfl
      clear hq hE hF
      go_wp2
      go_ret2
      exact ⟨_, by rw [HN.out]; rfl, by rw [comps_none HN.out]; exact World.ownsRow_nil _ _ _ _, L2⟩
  · have HN := Lib.hid (show normB s = false by rw [Bool.eq_false_iff]; intro e; exact hE ((norm_iff s).1 e).1)
    have q0 : (parseE s != 0) = true := by simpa using hE
    clear hE
    generalize parseE s = k at q0 ⊢
    go_wp2
    go_ret2
    exact ⟨_, by rw [HN.out]; rfl, by rw [comps_none HN.out]; exact World.ownsRow_nil _ _ _ _, hb⟩
set_option maxRecDepth 100000 in
set_option maxHeartbeats 2000000 in
theorem clean0_s (s : ByteArray) (w : World) (hs : s.size ≤ 1000000) :
    Calls Tryz.prog 76 #[.string s] w fun e w' => e = .returned (.tuple #[.string (cleanV s), .int .i64 (cleanE s)]) ∧ Below w.heap.size w w' := by
  go_enter Tryz.func76, Tryz.ntmps76
  go_wp2_with fail
  refine (parse_s s _ hs).mono ?_
  rintro e w1 ⟨v, rfl, hown, hb⟩
  by_cases hE : parseE s = 0
  · obtain ⟨ao, cap, rfl, hat⟩ := pairs_own hown rfl
    have HV := Lib.hid (show cleanV s = fmtV (parseV s) ∧ cleanE s = fmtE (parseV s) by unfold cleanV cleanE; rw [if_pos hE, if_pos hE]; exact ⟨rfl, rfl⟩)
    rw [hE]
    clear hE
    go_wp2_with fail
    refine (format_s ao _ cap (parseV s) _ hat (small_parse s)).mono ?_
    rintro e w2 ⟨rfl, hb2⟩
    go_wp2
    go_ret2
    exact ⟨by rw [HV.out.1, HV.out.2]; rfl, hb.trans (hb2.mono hb.size)⟩
  · have HV := Lib.hid (show cleanV s = ByteArray.empty ∧ cleanE s = parseE s by unfold cleanV cleanE; rw [if_neg hE, if_neg hE]; exact ⟨rfl, rfl⟩)
    have q0 : (parseE s != 0) = true := by simpa using hE
    clear hE
    generalize parseE s = k at q0 HV ⊢
    go_wp2
    go_ret2
    exact ⟨by rw [HV.out.1, HV.out.2]; rfl, hb⟩
end Nam
end Go.Proofs.YtmmdaegdkikkpaaGreatDoor
end

section
/-
  Contracts of Parent in the program and in the specification. Condition: at most 1000000 bytes.
-/
set_option maxRecDepth 100000
namespace Go.Proofs.YtmmdaegdkikkpaaGreatDoor
namespace Nam
open Go.RowKit Go.PlainAid
end Nam
end Go.Proofs.YtmmdaegdkikkpaaGreatDoor
end

section
/-
  The contract of name.shared: how many components two lists have in common at their ends. Condition: at most 1000 components.
-/
set_option maxRecDepth 100000
namespace Go.Proofs.YtmmdaegdkikkpaaGreatDoor
namespace Nam
open Go.RowKit Go.PlainAid
def sameB (l m : List Pr) (n : Nat) : Bool := decide (n < l.length) && decide (n < m.length) && decide (prAt l (l.length - 1 - n) = prAt m (m.length - 1 - n))
/-- k is the number of common components -/
def ComP (l m : List Pr) (k : Nat) : Prop := (∀ j, j < k → sameB l m j = true) ∧ sameB l m k = false
theorem sameB_iff (l m : List Pr) (n : Nat) : sameB l m n = true ↔ n < l.length ∧ n < m.length ∧ prAt l (l.length - 1 - n) = prAt m (m.length - 1 - n) := by
  unfold sameB; simp [and_assoc]
theorem ComP.le {l m : List Pr} {k : Nat} (h : ComP l m k) : k ≤ l.length ∧ k ≤ m.length := by
  rcases Nat.eq_zero_or_pos k with h0 | h0
  · omega
  · have := (sameB_iff _ _ _).1 (h.1 (k - 1) (by omega)); omega
end Nam
end Go.Proofs.YtmmdaegdkikkpaaGreatDoor
end

section
/-
  Contracts of name.shared and of Under in the program and in the specification. Condition: at most 1000000 bytes.
-/
set_option maxRecDepth 100000
namespace Go.Proofs.YtmmdaegdkikkpaaGreatDoor
namespace Nam
open Go.RowKit Go.PlainAid
end Nam
end Go.Proofs.YtmmdaegdkikkpaaGreatDoor
end

section
/-
  Contracts of Under in the program and in the specification. Condition: at most 1000000 bytes.
-/
set_option maxRecDepth 100000
namespace Go.Proofs.YtmmdaegdkikkpaaGreatDoor
namespace Nam
open Go.RowKit Go.PlainAid
theorem own_some {w : World} {base n cap size : Nat} {e : TypeId} {ao : Option Addr} {xs : List Value} (h : w.ownsRow base e size (.slice ao n cap) n xs) (hc : 0 < cap) : ∃ g, ao = some ⟨g, 0, none⟩ := by
  rcases h.2 with ⟨h1, _⟩ | ⟨g, c2, cur, h1, _⟩
  · cases h1; omega
  · cases h1; exact ⟨g, rfl⟩
end Nam
end Go.Proofs.YtmmdaegdkikkpaaGreatDoor
end

section
/-
  Appending pairs, copying pairs, and the contract of slices.Insert at one pair at the beginning of a row of the caller's own. Condition: at most 100 pairs.
-/
set_option maxRecDepth 100000
namespace Go.Proofs.YtmmdaegdkikkpaaGreatDoor
namespace Nam
open Go.RowKit Go.PlainAid
/-! ### copying -/
end Nam
end Go.Proofs.YtmmdaegdkikkpaaGreatDoor
end

section
/-
  The contract of slices.Insert at one pair at the beginning of a row of the caller's own. Condition: at most 100 pairs.
-/
set_option maxRecDepth 100000
namespace Go.Proofs.YtmmdaegdkikkpaaGreatDoor
namespace Nam
open Go.RowKit Go.PlainAid
theorem own_heap {w : World} {base n cap g : Nat} {xs : List Value} (h : w.ownsRow base 192 2 (.slice (some ⟨g, 0, none⟩) n cap) n xs) :
    base ≤ g ∧ g < w.heap.size ∧ n ≤ cap ∧ cap ≤ maxLen ∧ (∀ j, j < cap * 2 → (w.cell? ⟨g, j, none⟩).isSome = true) ∧ (∀ j, w.frozen? ⟨g, j, none⟩ = false) ∧ w.shape? g = some (192, cap * 2) := by
  have h0 := h
  obtain ⟨hl, ⟨he, _⟩ | ⟨g', cap', cur, he, h2, h3, h4, h5, h6, h7⟩⟩ := h
  · cases he
  · cases he
    refine ⟨h2, (h0.lt g rfl).2, h4, h5, fun j hj => ?_, fun j => Lib.frozen_of_heap h3 j, ?_⟩
    · rw [Lib.cell_of_heap h3, Array.getElem?_eq_getElem (by omega)]; rfl
    · unfold World.shape?; rw [h3, ← h6]
end Nam
end Go.Proofs.YtmmdaegdkikkpaaGreatDoor
end

section
/-
  Contracts of Child and Rebase in the program and in the specification. Condition: at most 1000000 bytes.
-/
set_option maxRecDepth 100000
namespace Go.Proofs.YtmmdaegdkikkpaaGreatDoor
namespace Nam
open Go.RowKit Go.PlainAid
theorem small_app {l m : List Pr} (h : Small l) (k : Small m) (hn : l.length + m.length ≤ 1000) : Small (l ++ m) := small_of _ (by simp; omega) fun q hq => by
  rcases List.mem_append.1 hq with hq | hq
  · exact h.mem q hq
  · exact k.mem q hq
end Nam
end Go.Proofs.YtmmdaegdkikkpaaGreatDoor
end

section
/-
  Contracts of Rebase in the program and in the specification. Condition: at most 1000000 bytes.
-/
set_option maxRecDepth 100000
namespace Go.Proofs.YtmmdaegdkikkpaaGreatDoor
namespace Nam
open Go.RowKit Go.PlainAid
theorem own_plain {w : World} {base n cap size : Nat} {e : TypeId} {ao : Option Addr} {xs : List Value} (h : w.ownsRow base e size (.slice ao n cap) n xs) : ∀ ad, ao = some ad → ad.spot = none := fun ad e0 => by
  subst e0
  rcases h.2 with ⟨h1, _⟩ | ⟨g, c2, cur, h1, _⟩
  · injection h1 with a; cases a
  · injection h1 with a; cases a; rfl
theorem own_fit {w : World} {base n cap size : Nat} {e : TypeId} {ao : Option Addr} {xs : List Value} (h : w.ownsRow base e size (.slice ao n cap) n xs) : n ≤ cap := by
  rcases h.2 with ⟨h1, h2⟩ | ⟨g, c2, cur, h1, _, _, h4, _⟩
  · omega
  · injection h1 with a b c; omega
end Nam
end Go.Proofs.YtmmdaegdkikkpaaGreatDoor
end

section
/-
  DERIVED: THE SHELF's CONTRACTS AT THIS DUMP, IN PLAIN WORDS (tools/lay-plain.mjs out of 'TryzShelfRSrc.lean', which tools/lay-shelf.mjs wrote): THE SAME DECLARATIONS UNDER THE SAME NAMES: 'import', 'namespace', 'open', 'def', 'theorem' AND NOTHING ELSE: no command of the shelf's: FOR A HAND-IN. Each laying: the table of numbers ('.._ren') and one theorem, a field a fact of the dump's own or the kernel's comparison; each contract: ONE APPLICATION.
-/
namespace Go.Proofs
open Go.Shelf
def Tryz.layE35_ren : Go.Shelf.Ren := ⟨fun | 35 => 237 | n => n, fun | 22 => 147 | 23 => 192 | 3 => 3 | 4 => 4 | 0 => 0 | n => n, fun | n => n⟩
theorem Tryz.layE35 : Go.Proofs.SlLaysE0.n35 Tryz.prog Tryz.layE35_ren := {
  mixed := by kernel_rfl
  f35 := ⟨Tryz.f237.name, by decide, Tryz.func237.trans (congrArg some (by kernel_rfl))⟩
  t0 := Tryz.underlying0
  a0 := Tryz.isAgg0
  z0 := Tryz.sizeOf0
  v0 := Tryz.zeroValue0
  t3 := Tryz.underlying3
  a3 := Tryz.isAgg3
  z3 := Tryz.sizeOf3
  v3 := Tryz.zeroValue3
  t4 := Tryz.underlying4
  a4 := Tryz.isAgg4
  z4 := Tryz.sizeOf4
  v4 := Tryz.zeroValue4
  t22 := Tryz.underlying147
  a22 := Tryz.isAgg147
  z22 := Tryz.sizeOf147
  v22 := Tryz.zeroValue147 }
end Go.Proofs
end

section
/-
  Contracts of cmp.Or at two numbers, name.comparePairs, slices.Reverse and slices.CompareFunc at pairs, and the specification's bytes. Condition: at most 1000 pairs.
-/
set_option maxRecDepth 100000
namespace Go.Proofs.YtmmdaegdkikkpaaGreatDoor
namespace Nam
open Go.RowKit Go.PlainAid
theorem compare_lib (a b : ByteArray) (w : World) :
    Calls Tryz.prog 171 #[.string a, .string b] w fun e w' => e = .returned (.int .i64 (cmpS a b)) ∧ w = w' :=
  (Tryz.strings_Compare a b w).mono fun _ _ h => ⟨h.1, h.2.symm⟩
theorem compare_q (a b : ByteArray) (w : World) :
    Calls Tryz.prog 171 #[.string a, .string b] w fun e w' => e = .returned (.int .i64 (cmpS a b)) ∧ w' = w := Tryz.strings_Compare a b w
theorem ints_new (w : World) (x y : Int) : (w.alloc (.cells #[.int .i64 x, .int .i64 y] 3)).cell? ⟨w.heap.size, 0, none⟩ = some (.int .i64 x) ∧ (w.alloc (.cells #[.int .i64 x, .int .i64 y] 3)).cell? ⟨w.heap.size, 1, none⟩ = some (.int .i64 y) := by
  have h : (w.alloc (.cells #[.int .i64 x, .int .i64 y] 3)).heap[w.heap.size]? = some (.cells #[.int .i64 x, .int .i64 y] 3) := heap_alloc_new w _
  exact ⟨by rw [Lib.cell_of_heap h]; rfl, by rw [Lib.cell_of_heap h]; rfl⟩
def orI (x y : Int) : Int := if x = 0 then y else x
set_option maxRecDepth 100000 in
set_option maxHeartbeats 2000000 in
theorem or_s (x y : Int) (w : World) :
    Calls Tryz.prog 273 #[.slice (some ⟨w.heap.size, 0, none⟩) 2 2] (w.alloc (.cells #[.int .i64 x, .int .i64 y] 3)) fun e w' => e = .returned (.int .i64 (orI x y)) ∧ (w.alloc (.cells #[.int .i64 x, .int .i64 y] 3)) = w' := by
  obtain ⟨c0, c1⟩ := ints_new w x y
  by_cases hx : x = 0
  · have HE := Lib.hid (show orI x y = y from if_pos hx)
    have q0 : (x != 0) = false := by rw [hx]; rfl
    clear hx
    by_cases hy : y = 0
    · subst hy
      go_enter Tryz.func273, Tryz.ntmps273
      go_wp2
      refine wp_loop_rounds 3 ?_
      rw [rounds_succ]
      go_wp2
      rw [rounds_succ]
      go_wp2
      rw [rounds_succ]
      go_wp2
      go_ret
      exact ⟨by rw [HE.out]; rfl, rfl⟩
    · have q1 : (y != 0) = true := by simpa using hy
      clear hy
      go_enter Tryz.func273, Tryz.ntmps273
      go_wp2
      refine wp_loop_rounds 3 ?_
      rw [rounds_succ]
      go_wp2
      rw [rounds_succ]
      go_wp2
      go_ret
      exact ⟨by rw [HE.out]; rfl, rfl⟩
  · have HE := Lib.hid (show orI x y = x from if_neg hx)
    have q0 : (x != 0) = true := by simpa using hx
    clear hx
    go_enter Tryz.func273, Tryz.ntmps273
    go_wp2
    refine wp_loop_rounds 3 ?_
    rw [rounds_succ]
    go_wp2
    go_ret
    exact ⟨by rw [HE.out]; rfl, rfl⟩
theorem orI_pair (p q : Pr) : orI (cmpS p.1 q.1) (cmpS p.2 q.2) = cmpP p q := rfl
set_option maxRecDepth 100000 in
set_option maxHeartbeats 4000000 in
theorem comparePairs_s (p q : Pr) (w : World) :
    Calls Tryz.prog 239 #[.agg #[.string p.1, .string p.2], .agg #[.string q.1, .string q.2]] w fun e w' => e = .returned (.int .i64 (cmpP p q)) ∧ Below w.heap.size w w' := by
  obtain ⟨p1, p2⟩ := p
  obtain ⟨q1, q2⟩ := q
  have HE := Lib.hid (orI_pair (p1, p2) (q1, q2))
  have X1 := (pbox_new w (p1, p2)).alloc (.cells #[.string q1, .string q2] 192)
  have X2 := pbox_new (w.alloc (.cells #[.string p1, .string p2] 192)) (q1, q2)
  obtain ⟨c0, c1⟩ := X1.cells
  obtain ⟨d0, d1⟩ := X2.cells
  rw [World.size_alloc] at d0 d1
  have L0 := Lib.hid (show Below w.heap.size w ((w.alloc (.cells #[.string p1, .string p2] 192)).alloc (.cells #[.string q1, .string q2] 192)) from below_next (below_new _) (below_new _))
  clear X1 X2
  go_enter Tryz.func239, Tryz.ntmps239
  go_wp2_with fail
  generalize (w.alloc (.cells #[.string p1, .string p2] 192)).alloc (.cells #[.string q1, .string q2] 192) = W0 at c0 c1 d0 d1 L0 ⊢
  refine wp_region_still_tail 10 (by kernel_rfl) (by kernel_rfl) ?_
  simp only [List.take_succ_cons, List.take_zero, List.drop_succ_cons, List.drop_zero]
  change wpStill _ _ (World.drew W0) _ _ _
  still_step
  still_step
  still_step
  still_step
  still_call (compare_q p1 q1 _)
  still_step
  still_step
  still_step
  still_step
  still_call (compare_q p2 q2 _)
  refine wpStill_nil ?_
  change wpList _ _ _ _ _ (World.drew W0)
  go_wp2_with (go_at_call 273; refine (or_s _ _ (World.drew W0)).mono ?_; rintro e w' ⟨rfl, rfl⟩)
  go_ret
  exact ⟨by rw [← HE.out]; rfl, (L0.out.drew).alloc (by have := L0.out.size; exact this) _⟩
end Nam
end Go.Proofs.YtmmdaegdkikkpaaGreatDoor
end

section
/-
  Contracts of slices.Reverse and slices.CompareFunc at pairs, and of Compare in the program. Condition: at most 1000000 bytes.
-/
set_option maxRecDepth 100000
namespace Go.Proofs.YtmmdaegdkikkpaaGreatDoor
namespace Nam
open Go.RowKit Go.PlainAid Go.Shelf
open Go.Sort (HoldsK putRowK flatK size_flatK get_flatK holdsK_putRowK)
def encP (p : Pr) : List Value := [.string p.1, .string p.2]
instance : Inhabited Pr := ⟨(ByteArray.empty, ByteArray.empty)⟩
theorem get_pr (l : List Pr) (j : Nat) : l[j]! = prAt l j := by
  unfold prAt; rw [List.getElem!_eq_getElem?_getD, List.getD_eq_getElem?_getD]; rfl
theorem holds_pairs {w : World} {base g n cap : Nat} {l : List Pr} (h : w.ownsRow base 192 2 (.slice (some ⟨g, 0, none⟩) n cap) n (pcells l)) (hl : l.length = n) : HoldsK encP 2 w g 0 l.toArray := by
  intro j hj
  obtain ⟨_, _, _, _, _, hfz, _⟩ := own_heap h
  obtain ⟨xo, dap, he, hat⟩ := pairs_own h hl
  cases he
  have hj2 : j < l.toArray.size * 2 := by rw [size_flatK] at hj; exact hj
  have hs : l.toArray.size = l.length := by simp
  obtain ⟨b, off, e, hp⟩ := hat.2.2.2 (by omega)
  cases e
  have hk := hp.2 (j / 2) (by omega)
  rw [get_flatK _ _ _ _ hj2]
  have e : (l.toArray)[j / 2]! = prAt l (j / 2) := by rw [← get_pr]; simp
  rw [e]
  refine ⟨?_, hfz _⟩
  rcases Nat.mod_two_eq_zero_or_one j with e2 | e2
  · rw [e2, show 0 + j = 0 + j / 2 * 2 by omega, hk.1]; rfl
  · rw [e2, show 0 + j = 0 + j / 2 * 2 + 1 by omega, hk.2]; rfl
theorem pairs_holds {w : World} {g cap : Nat} {d : Array Pr} (h : HoldsK encP 2 w g 0 d) (hg : g < w.heap.size) (h1 : d.size ≤ cap) (h2 : cap ≤ maxLen) : PairsAt w (some ⟨g, 0, none⟩) d.size cap d.toList := by
  refine ⟨by simp, h1, h2, fun _ => ⟨g, 0, rfl, hg, fun j hj => ?_⟩⟩
  have hj2 : j < d.size := by simpa using hj
  have e : prAt d.toList j = d[j]! := by
    rw [← get_pr, getElem!_pos d j hj2, getElem!_pos d.toList j hj]; simp
  have c0 := (h.cell hj2 (c := 0) (by omega)).1
  have c1 := (h.cell hj2 (c := 1) (by omega)).1
  rw [e]
  exact ⟨c0, c1⟩
/-- what a call keeps that writes into one block alone -/
def BlockKeep (ao : Option Addr) (w w' : World) : Prop := w.heap.size ≤ w'.heap.size ∧ ∀ k, k < w.heap.size → (∀ g, ao = some ⟨g, 0, none⟩ → k ≠ g) → w'.heap[k]? = w.heap[k]?
theorem reverse_s (w : World) (base n cap : Nat) (ao : Option Addr) (l : List Pr) (h : w.ownsRow base 192 2 (.slice ao n cap) n (pcells l)) (hl : l.length = n) (hn : n ≤ 1000) :
    Calls Tryz.prog 237 #[.slice ao n cap] w fun e w' => e = .returned (.tuple #[]) ∧ PairsAt w' ao n cap l.reverse ∧ Below base w w' ∧ BlockKeep ao w w' := by
  rcases Nat.eq_zero_or_pos n with h0 | h0
  · subst h0
    have e1 : l = [] := List.length_eq_zero_iff.1 hl
    subst e1
    have hat : PairsAt w ao 0 cap [] := by obtain ⟨xo, dap, e, hat⟩ := pairs_own h rfl; cases e; exact hat
    refine (AnyQ.slices_Reverse_empty Tryz.layE35 ao cap w).mono fun e w' k => ?_
    obtain ⟨he, rfl⟩ := k
    exact ⟨he, hat, Below.refl _ _, Nat.le_refl _, fun _ _ _ => rfl⟩
  · have hcap : 0 < cap := by have := own_fit h; omega
    obtain ⟨g, rfl⟩ := own_some h hcap
    obtain ⟨hbg, hgw, hnc, hcm, _, _, _⟩ := own_heap h
    have hsz : l.toArray.size = n := by simpa using hl
    have hcon := AnyQ.slices_Reverse Tryz.layE35 2 Tryz.isAgg192 Tryz.sizeOf192 encP (fun _ => rfl) (fun x v hv => by simp [encP] at hv; rcases hv with rfl | rfl <;> rfl) g 0 cap l.toArray w (holds_pairs h hl) (by rw [hsz]; omega)
    rw [hsz] at hcon
    refine hcon.mono fun e w' k => ?_
    obtain ⟨he, q, rfl⟩ := k
    have hH := holdsK_putRowK (enc := encP) (k := 2) (Go.Sort.ahead w q) g 0 l.toArray l.toArray.reverse (holds_pairs h hl) (by simp)
    have hz : (putRowK encP 2 (Go.Sort.ahead w q) g 0 l.toArray.reverse).heap.size = w.heap.size := by show (w.heap.modify g _).size = _; simp
    have hoth : ∀ k, k ≠ g → (putRowK encP 2 (Go.Sort.ahead w q) g 0 l.toArray.reverse).heap[k]? = w.heap[k]? := fun k hk => by
      show (w.heap.modify g _)[k]? = _
      rw [Array.getElem?_modify, if_neg (fun e => hk e.symm)]
    have hat := pairs_holds hH (by rw [hz]; exact hgw) (show l.toArray.reverse.size ≤ cap by simp; omega) hcm
    have e1 : l.toArray.reverse.size = n := by simpa using hl
    have e2 : l.toArray.reverse.toList = l.reverse := by simp
    rw [e1, e2] at hat
    refine ⟨he, hat, ⟨rfl, rfl, rfl, by rw [hz]; exact Nat.le_refl _, fun k hk => hoth k (by omega)⟩, by rw [hz]; exact Nat.le_refl _, fun k _ hk => hoth k (hk g rfl)⟩
theorem cmpL_step (l q : List Pr) (k : Nat) (h1 : k < l.length) (h2 : k < q.length) : cmpL (l.drop k) (q.drop k) = if cmpP (prAt l k) (prAt q k) = 0 then cmpL (l.drop (k + 1)) (q.drop (k + 1)) else cmpP (prAt l k) (prAt q k) := by
  have hd : ∀ (x : List Pr), k < x.length → x.drop k = prAt x k :: x.drop (k + 1) := fun x hx => by
    unfold prAt; rw [List.getD_eq_getElem?_getD, List.getElem?_eq_getElem hx]; exact List.drop_eq_getElem_cons hx
  rw [hd l h1, hd q h2]; rfl
theorem cmpL_left (l q : List Pr) (k : Nat) (h1 : k < l.length) (h2 : q.length ≤ k) : cmpL (l.drop k) (q.drop k) = 1 := by
  rw [List.drop_eq_nil_of_le h2, List.drop_eq_getElem_cons h1]; rfl
theorem cmpL_right (l q : List Pr) (k : Nat) (h1 : l.length ≤ k) : cmpL (l.drop k) (q.drop k) = if k < q.length then -1 else 0 := by
  rw [List.drop_eq_nil_of_le h1]
  by_cases h2 : k < q.length
  · rw [if_pos h2, List.drop_eq_getElem_cons h2]; rfl
  · rw [if_neg h2, List.drop_eq_nil_of_le (by omega)]; rfl
set_option maxRecDepth 100000 in
set_option maxHeartbeats 4000000 in
theorem compareFunc_s (ao bo : Option Addr) (n cap m dap : Nat) (l q : List Pr) (w : World) (hl : PairsAt w ao n cap l) (hq : PairsAt w bo m dap q) (hn : n ≤ 1000) (hm : m ≤ 1000) :
    Calls Tryz.prog 238 #[.slice ao n cap, .slice bo m dap, .func (.func 239) #[] #[]] w fun e w' => e = .returned (.int .i64 (cmpL l q)) ∧ Below w.heap.size w w' := by
  have HA := Lib.hid hl
  have HQ := Lib.hid hq
  have hl1 := hl.1
  have hq1 := hq.1
  have hl2 : n = l.length := hl1.symm
  have hq2 : m = q.length := hq1.symm
  clear hl hq hl1 hq1
  subst hl2 hq2
  go_enter Tryz.func238, Tryz.ntmps238
  go_wp2
  go_loopw [13] (fun i wr => ∃ k : Nat, k ≤ l.length ∧ k ≤ q.length ∧ i = .int .i64 k ∧ Hid (cmpL l q = cmpL (l.drop k) (q.drop k)) ∧ Below w.heap.size w wr) (fun i _ => l.length - (intOf i).toNat)
  case atStart => exact ⟨0, Nat.zero_le _, Nat.zero_le _, rfl, Lib.hid rfl, Below.refl _ _⟩
  case round =>
    obtain ⟨k, hk, hkq, rfl, HC, hbel⟩ := hrel
    by_cases hlt : k < l.length
    · obtain ⟨b, off, rfl, hs⟩ := HA.out.2.2.2 (by omega)
      obtain ⟨hc1, hc2⟩ := (hs.below hbel hs.1).2 k hlt
      obtain ⟨⟨p1, p2⟩, hpe⟩ : ∃ p, p = prAt l k := ⟨_, rfl⟩
      by_cases hltq : k < q.length
      · obtain ⟨b2, off2, rfl, hs2⟩ := HQ.out.2.2.2 (by omega)
        have HST := Lib.hid (cmpL_step l q k hlt hltq)
        obtain ⟨⟨q1, q2⟩, hqe⟩ : ∃ p, p = prAt q k := ⟨_, rfl⟩
        rw [← hpe, ← hqe] at HST
        rw [← hpe] at hc1 hc2
        have hbx := below_new (w := wr) (.cells #[.string p1, .string p2] 192)
        obtain ⟨hd1, hd2⟩ := (hs2.below (hbel.trans (hbx.mono hbel.size)) hs2.1).2 k hltq
        rw [← hqe] at hd1 hd2
        simp only [] at hc1 hc2 hd1 hd2
        have X1 := (pbox_new wr (p1, p2)).alloc (.cells #[.string q1, .string q2] 192)
        have X2 := pbox_new (wr.alloc (.cells #[.string p1, .string p2] 192)) (q1, q2)
        obtain ⟨x0, x1⟩ := X1.cells
        obtain ⟨y0, y1⟩ := X2.cells
        rw [World.size_alloc] at y0 y1
        have L1 := below_next (hbx) (below_new (.cells #[.string q1, .string q2] 192))
        have HL1 := Lib.hid (hbel.trans (L1.mono hbel.size))
        have hd : decide ((q.length : Int) ≤ (k : Int)) = false := decide_eq_false (by omega)
        clear hs hs2 hpe hqe hbx X1 X2 L1
        go_wp2_with fail
        refine (comparePairs_s (p1, p2) (q1, q2) _).mono ?_
        rintro e w2 ⟨rfl, hb2⟩
        have HL2 := Lib.hid (HL1.out.trans (hb2.mono HL1.out.size))
        generalize hcv : cmpP (p1, p2) (q1, q2) = c at HST ⊢
        clear hc1 hc2 hd1 hd2 x0 x1 y0 y1 hb2
        by_cases h0 : c = 0
        · rw [if_pos h0] at HST
          have q0 : (c != 0) = false := by rw [h0]; rfl
          have HN := Lib.hid (show cmpL l q = cmpL (l.drop (k + 1)) (q.drop (k + 1)) by rw [HC.out, HST.out])
          clear h0 hcv
          go_wp2
          go_roundw
          case rel => exact ⟨k + 1, by omega, by omega, by go_num, HN, HL2.out⟩
          case measure => simp [intOf]; omega
        · rw [if_neg h0] at HST
          have q0 : (c != 0) = true := by simpa using h0
          have HN := Lib.hid (show cmpL l q = c by rw [HC.out, HST.out])
          clear h0 hcv
          go_wp2
          go_ret
          exact ⟨by rw [HN.out]; rfl, HL2.out⟩
      · have HN := Lib.hid (show cmpL l q = 1 by rw [HC.out, cmpL_left l q k hlt (by omega)])
        have hd : decide ((q.length : Int) ≤ (k : Int)) = true := decide_eq_true (by omega)
        rw [← hpe] at hc1 hc2
        simp only [] at hc1 hc2
        clear hs hpe
        have HL1 := Lib.hid (hbel.trans ((below_new (w := wr) (.cells #[.string p1, .string p2] 192)).mono hbel.size))
        go_wp2
        go_ret
        exact ⟨by rw [HN.out]; rfl, HL1.out⟩
    · have HN := Lib.hid (show cmpL l q = if l.length < q.length then -1 else 0 by rw [HC.out, cmpL_right l q k (by omega), show k = l.length by omega])
      by_cases hltq : l.length < q.length
      · rw [if_pos hltq] at HN
        have hd : decide ((l.length : Int) < (q.length : Int)) = true := decide_eq_true (by omega)
        go_wp2
        go_ret
        exact ⟨by rw [HN.out]; rfl, hbel⟩
      · rw [if_neg hltq] at HN
        have hd : decide ((l.length : Int) < (q.length : Int)) = false := decide_eq_false (by omega)
        go_wp2
        go_ret
        exact ⟨by rw [HN.out]; rfl, hbel⟩
end Nam
end Go.Proofs.YtmmdaegdkikkpaaGreatDoor
end

section
/-
  Contracts of Compare in the program and in the specification. Condition: at most 1000000 bytes.
-/
set_option maxRecDepth 100000
namespace Go.Proofs.YtmmdaegdkikkpaaGreatDoor
namespace Nam
open Go.RowKit Go.PlainAid
theorem own_keep {w w' : World} {base n size : Nat} {e : TypeId} {v : Value} {xs : List Value} {ao : Option Addr} (h : w.ownsRow base e size v n xs) (hk : BlockKeep ao w w') (hd : ∀ g, ao = some ⟨g, 0, none⟩ → g < base) : w'.ownsRow base e size v n xs := by
  refine ⟨h.1, ?_⟩
  rcases h.2 with h2 | ⟨g, cap, cur, h2, h3, h4, h5⟩
  · exact .inl h2
  · refine .inr ⟨g, cap, cur, h2, h3, ?_, h5⟩
    rw [hk.2 g (by
      rcases Nat.lt_or_ge g w.heap.size with h' | h'
      · exact h'
      · simp [Array.getElem?_eq_none h'] at h4) (fun g' e => by have := hd g' e; omega)]
    exact h4
theorem pairs_keep {w w' : World} {B n cap : Nat} {ao : Option Addr} {l : List Pr} (h : PairsAt w ao n cap l) (hb : Below B w w') (hd : ∀ g off, ao = some ⟨g, off, none⟩ → g < B) : PairsAt w' ao n cap l :=
  ⟨h.1, h.2.1, h.2.2.1, fun hn => by
    obtain ⟨b, off, e, hi⟩ := h.2.2.2 hn
    exact ⟨b, off, e, hi.below hb (hd b off e)⟩⟩
set_option maxRecDepth 100000 in
set_option maxHeartbeats 4000000 in
theorem compare_s (a b : ByteArray) (w : World) (ha : a.size ≤ 1000000) (hb : b.size ≤ 1000000) :
    Calls Tryz.prog 170 #[.string a, .string b] w fun e w' => e = .returned (.int .i64 (cmpN a b)) ∧ Below w.heap.size w w' := by
  have h8 := compsV_few a
  have h9 := compsV_few b
  have HN := Lib.hid (show cmpN a b = if normB a then (if normB b then cmpL (compsV a).reverse (compsV b).reverse else -1) else (if normB b then 1 else cmpS a b) from rfl)
  go_enter Tryz.func170, Tryz.ntmps170
  go_wp2_with fail
  refine (components_s a _ ha).mono ?_
  rintro e w1 ⟨v, rfl, hown, hb1⟩
  obtain ⟨ao, cap, rfl⟩ := own_slice hown
  go_wp2_with fail
  refine (components_s b _ hb).mono ?_
  rintro e w2 ⟨v, rfl, hown2, hb2⟩
  obtain ⟨bo, dap, rfl⟩ := own_slice hown2
  have L2 := below_next hb1 hb2
  have hal : ∀ g, ao = some ⟨g, 0, none⟩ → g < w1.heap.size := fun g e => by subst e; exact (hown.lt g rfl).2
  have HO := Lib.hid (own_below hown hb2)
  have HO2 := Lib.hid hown2
  have HP := Lib.hid (own_plain hown)
  have HAL := Lib.hid hal
  have HB1 := Lib.hid hb1
  clear hown hown2 hal
  obtain ⟨l, hl⟩ : ∃ l, compsV a = l := ⟨_, rfl⟩
  obtain ⟨m, hm⟩ : ∃ m, compsV b = m := ⟨_, rfl⟩
  rw [hl] at h8 HN HO ⊢
  rw [hm] at h9 HN HO2 ⊢
  clear hl hm
  cases c1 : normB a
  · cases c2 : normB b
    · rw [c1, c2] at HN
      have HF := Lib.hid (show cmpN a b = cmpS a b from HN.out)
      clear c1 c2
      go_wp2_with (go_at_call 171; refine (compare_lib a b _).mono ?_; rintro e w' ⟨rfl, rfl⟩)
      go_ret
      exact ⟨by rw [HF.out]; rfl, L2⟩
    · rw [c1, c2] at HN
      have HF := Lib.hid (show cmpN a b = 1 from HN.out)
      clear c1 c2
      go_wp2
      go_ret
      exact ⟨by rw [HF.out]; rfl, L2⟩
  · cases c2 : normB b
    · rw [c1, c2] at HN
      have HF := Lib.hid (show cmpN a b = -1 from HN.out)
      clear c1 c2
      go_wp2
      go_ret
      exact ⟨by rw [HF.out]; rfl, L2⟩
    · rw [c1, c2] at HN
      have HF := Lib.hid (show cmpN a b = cmpL l.reverse m.reverse from HN.out)
      clear c1 c2
      go_wp2_with fail
      refine (reverse_s _ _ _ cap ao l HO.out rfl (by omega)).mono ?_
      rintro e w3 ⟨rfl, hat3, hb3, hk3⟩
      have HO3 := Lib.hid (own_keep HO2.out hk3 HAL.out)
      have L3 := L2.trans hb3
      have HA3 := Lib.hid hat3
      clear hat3 hk3 hb3
      go_wp2_with fail
      refine (reverse_s _ _ _ dap bo m HO3.out rfl (by omega)).mono ?_
      rintro e w4 ⟨rfl, hat4, hb4, hk4⟩
      have HA4 := Lib.hid (pairs_keep HA3.out hb4 (fun g off e => by
        rcases Nat.eq_zero_or_pos cap with hc | hc
        · have := HO.out.2
          rcases this with ⟨h, _⟩ | ⟨g2, c2, cur, h, h3, h4, h5, h6, h7, h8⟩
          · injection h with q; subst q; cases e
          · injection h with q1 q2 q3; subst q1; cases e; exact HAL.out _ rfl
        · obtain ⟨g2, rfl⟩ := own_some HO.out hc
          cases e; exact HAL.out _ rfl))
      have HB4 := Lib.hid hat4
      have L4 := L3.trans (hb4.mono HB1.out.size)
      clear hat4 hk4 hb4
      go_wp2_with fail
      refine (compareFunc_s ao bo _ cap _ dap l.reverse m.reverse _ HA4.out HB4.out (by omega) (by omega)).mono ?_
      rintro e w5 ⟨rfl, hb5⟩
      go_wp2
      go_ret
      exact ⟨by rw [HF.out]; rfl, below_next L4 hb5⟩
end Nam
end Go.Proofs.YtmmdaegdkikkpaaGreatDoor
end

section
/-
  Slices of strings that the call has made or that came in, and the contract of the specification's Same. No condition beyond sizes.
-/
set_option maxRecDepth 100000
namespace Go.Proofs.YtmmdaegdkikkpaaGreatDoor
open Go.RowKit Go.PlainAid
set_option maxRecDepth 100000 in
set_option maxHeartbeats 2000000 in
theorem lists_s (ao bo : Option Addr) (n m cap dap : Nat) (ps qs : List ByteArray) (w : World) (h : StrsAt w ao n cap ps) (k : StrsAt w bo m dap qs) :
    Calls Tryz.prog 51 #[.slice ao n cap, .slice bo m dap] w fun e w' => e = .returned (.bool (decide (ps = qs))) ∧ Below w.heap.size w w' := by
  obtain ⟨h1, h2, h3, h4⟩ := h
  obtain ⟨k1, k2, k3, k4⟩ := k
  subst h1
  subst k1
  unfold maxLen at h3 k3
  have H4 := Lib.hid h4; clear h4
  have K4 := Lib.hid k4; clear k4
  by_cases hne : ps.length = qs.length
  · have hn1 : ((ps.length : Int) != (qs.length : Int)) = false := by simp; omega
    go_enter Tryz.func51, Tryz.ntmps51
    go_wp2
    go_loopw [5] (fun i wr => ∃ k : Nat, k ≤ ps.length ∧ i = .int .i64 k ∧ Hid (∀ j, j < k → partAt ps j = partAt qs j) ∧ Below w.heap.size w wr) (fun i _ => ps.length - (intOf i).toNat)
    case atStart => exact ⟨0, Nat.zero_le _, rfl, Lib.hid (fun j hj => absurd hj (Nat.not_lt_zero _)), Below.refl _ _⟩
    case round =>
      obtain ⟨k, hk, rfl, HA, hbel⟩ := hrel
      by_cases hlt : k < ps.length
      · obtain ⟨b, off, rfl, hs⟩ := H4.out (by omega)
        obtain ⟨c, off2, rfl, hs2⟩ := K4.out (by omega)
        have hcell := (hs.below hbel hs.1).2 k hlt
        have hcell2 := (hs2.below hbel hs2.1).2 k (by omega)
        clear hs hs2
        obtain ⟨p, hpe⟩ : ∃ p, p = partAt ps k := ⟨_, rfl⟩
        obtain ⟨q, hqe⟩ : ∃ q, q = partAt qs k := ⟨_, rfl⟩
        rw [← hpe] at hcell
        rw [← hqe] at hcell2
        have HP := Lib.hid hpe; clear hpe
        have HQ := Lib.hid hqe; clear hqe
        have k1 : (0 : Int) ≤ (k : Int) := by omega
        have k2 : (k : Int) < (ps.length : Int) := by omega
        have k3 : (k : Int) < (qs.length : Int) := by omega
        by_cases hpq : p = q
        · have hq : (p.toList == q.toList) = true := by rw [hpq]; exact beq_self_eq_true _
          have HPQ := Lib.hid hpq; clear hpq
          go_wp2_with fail
          go_region_held3 (fun w' => w'.cell? ⟨b, off + k, none⟩ = some (.string p) ∧ w'.cell? ⟨c, off2 + k, none⟩ = some (.string q)) (go_keep) (fail)
          go_wp2
          go_roundw
          case rel =>
            refine ⟨k + 1, by omega, by go_num, Lib.hid fun j hj => ?_, hbel.drew⟩
            by_cases e : j = k
            · rw [e, ← HP.out, ← HQ.out, HPQ.out]
            · exact HA.out j (by omega)
          case measure => simp [intOf]; omega
        · have HE := Lib.hid (show decide (ps = qs) = false from decide_eq_false fun e => hpq (by rw [HP.out, HQ.out, e]))
          have hq : (p.toList == q.toList) = false := by
            rw [Lib.toList_data, Lib.toList_data]
            exact beq_false_of_ne fun e => hpq (by rw [← Lib.mk_data p, ← Lib.mk_data q, e])
          clear hpq
          go_wp2_with fail
          go_region_held3 (fun w' => w'.cell? ⟨b, off + k, none⟩ = some (.string p) ∧ w'.cell? ⟨c, off2 + k, none⟩ = some (.string q)) (go_keep) (fail)
          go_wp2
          go_ret
          exact ⟨by rw [HE.out]; rfl, hbel.drew⟩
      · have HE := Lib.hid (show decide (ps = qs) = true from decide_eq_true (strs_ext hne fun j hj => HA.out j (by omega)))
        go_wp2
        go_ret
        exact ⟨by rw [HE.out]; rfl, hbel⟩
  · have HE := Lib.hid (show decide (ps = qs) = false from decide_eq_false fun e => hne (by rw [e]))
    have hn1 : ((ps.length : Int) != (qs.length : Int)) = true := by simp; omega
    go_enter Tryz.func51, Tryz.ntmps51
    go_wp2
    go_ret
    exact ⟨by rw [HE.out]; rfl, Below.refl _ _⟩
end Go.Proofs.YtmmdaegdkikkpaaGreatDoor
end
