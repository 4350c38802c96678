/-
  Texts of the schema layer and of those beneath it, joined: NamF, NamG, NamSame, NamH, NamI, NamJ, NamU, NamW, NamX. Conditions stand at each contract.
-/
import Derived.Deep.RegionHeld3
import Derived.WalkSmall
import Derived.BigQuiet
import Derived.Deep.QuietTactic
import Derived.Laws.AppendOwnNone
import Derived.ArgAppend
import Derived.Deep.AppendSrc
import Derived.Lib.Overlaps
import Derived.Lib.AppendZerosOnto
import Derived.Laws.Externs
import Derived.Laws.IdiomCopy
import Derived.Deep.RegionLaw
import Derived.Test.YtclfjdnemafmeaaGreatDoorM11
import Derived.Test.YtclfjdnemafmeaaGreatDoorM12

section
/-
  Contracts of name.Format and of the specification's Format. Condition: at most 1000 pairs of strings of at most 1000000 bytes.
-/
set_option maxRecDepth 100000
set_option linter.unusedVariables false
set_option linter.unusedSimpArgs false
set_option linter.unnecessarySimpa false
namespace Go.Proofs.YtclfjdnemafmeaaGreatDoor
namespace Nam
open Go.RowKit Go.PlainAid

def fmtK (l : List Pr) (k : Nat) : List UInt8 := barC ((l.take k).map fmtC)
theorem fmtK_first (l : List Pr) (h : 0 < l.length) : fmtK l (0 + 1) = fmtK l 0 ++ (lowS (prAt l 0).1).data.toList ++ [61] ++ (escS (foldS (prAt l 0).2)).data.toList := by
  unfold fmtK
  rw [pr_take l 0 h, List.take_zero, List.nil_append, List.map_cons, List.map_nil]
  show fmtC (prAt l 0) = _
  unfold fmtC escS; simp [barC, ofB_data]
theorem fmtK_next (l : List Pr) (k : Nat) (h : k < l.length) (h0 : 0 < k) : fmtK l (k + 1) = fmtK l k ++ [44] ++ (lowS (prAt l k).1).data.toList ++ [61] ++ (escS (foldS (prAt l k).2)).data.toList := by
  unfold fmtK
  rw [pr_take l k h, List.map_append, List.map_cons, List.map_nil, barC_snoc _ _ (by
    intro e; have := congrArg List.length e; rw [List.length_map, List.length_take, List.length_nil] at this; omega)]
  unfold fmtC escS; simp [ofB_data]
theorem barC_len (m : Nat) : ∀ l : List (List UInt8), (∀ p ∈ l, p.length ≤ m) → (barC l).length ≤ l.length * (m + 1)
  | [], _ => by simp [barC]
  | [p], h => by have := h p (by simp); simp [barC]; omega
  | p :: q :: r, h => by
    have h1 := h p (by simp)
    have ih := barC_len m (q :: r) (fun x hx => h x (by simp at hx ⊢; exact .inr hx))
    rw [show barC (p :: q :: r) = p ++ 44 :: barC (q :: r) from rfl, List.length_append, List.length_cons, List.length_cons, Nat.add_mul]
    omega
theorem fmtC_len (p : Pr) : (fmtC p).length ≤ p.1.size + 1 + 2 * p.2.size := by
  unfold fmtC
  have h1 := escV_len (foldS p.2).data.toList
  rw [← Lib.size_eq] at h1
  have h2 := foldS_size p.2
  have h3 : (lowS p.1).data.toList.length = p.1.size := by rw [← Lib.size_eq, lowS_size]
  rw [List.length_append, List.length_cons, h3]; omega
/-- no pair is too large -/
def Small (l : List Pr) : Prop := l.length ≤ 1000 ∧ ∀ j, j < l.length → (prAt l j).1.size ≤ 1000000 ∧ (prAt l j).2.size ≤ 1000000
theorem prAt_mem (l : List Pr) {p : Pr} (h : p ∈ l) : ∃ j, j < l.length ∧ prAt l j = p := by
  obtain ⟨j, hj, rfl⟩ := List.getElem_of_mem h
  exact ⟨j, hj, by unfold prAt; rw [List.getD_eq_getElem?_getD, List.getElem?_eq_getElem hj]; rfl⟩
theorem mem_prAt (l : List Pr) {j : Nat} (h : j < l.length) : prAt l j ∈ l := by
  unfold prAt; rw [List.getD_eq_getElem?_getD, List.getElem?_eq_getElem h]; exact List.getElem_mem h
theorem small_of (l : List Pr) (h1 : l.length ≤ 1000) (h : ∀ p ∈ l, p.1.size ≤ 1000000 ∧ p.2.size ≤ 1000000) : Small l := ⟨h1, fun j hj => h _ (mem_prAt l hj)⟩
theorem Small.mem {l : List Pr} (h : Small l) : ∀ p ∈ l, p.1.size ≤ 1000000 ∧ p.2.size ≤ 1000000 := fun p hp => by
  obtain ⟨j, hj, rfl⟩ := prAt_mem l hp
  exact h.2 j hj
theorem fmtK_len {l : List Pr} (h : Small l) (k : Nat) : (fmtK l k).length ≤ 4000000000 := by
  have h1 := barC_len 3000001 ((l.take k).map fmtC) (fun p hq => by
    obtain ⟨q, hq1, rfl⟩ := List.mem_map.1 hq
    have h2 := h.mem q (List.mem_of_mem_take hq1)
    have h3 := fmtC_len q
    omega)
  have h2 : ((l.take k).map fmtC).length ≤ 1000 := by have := h.1; simp; omega
  unfold fmtK
  have := Nat.mul_le_mul_right (3000001 + 1) h2
  omega
theorem fmtFirst_step {l : List Pr} {k : Nat} (h : fmtFirst (l.take k) = 0) (hk : k < l.length) : (prE (prAt l k) = 0 → fmtFirst (l.take (k + 1)) = 0) ∧ (prE (prAt l k) ≠ 0 → fmtE l = prE (prAt l k) ∧ fmtV l = ByteArray.empty) := by
  have hall := fmtFirst_all h
  have happ : ∀ (a b : List Pr), fmtFirst a = 0 → fmtFirst (a ++ b) = fmtFirst b := fun a b ha => by
    induction a with
    | nil => rfl
    | cons p r ih =>
      unfold fmtFirst at ha
      by_cases hp : prE p = 0
      · rw [if_pos hp] at ha
        show (if prE p = 0 then fmtFirst (r ++ b) else prE p) = _
        rw [if_pos hp, ih ha]
      · rw [if_neg hp] at ha; exact absurd ha hp
  refine ⟨fun e => ?_, fun e => ?_⟩
  · rw [pr_take l k hk, happ _ _ h]; unfold fmtFirst; rw [if_pos e]; rfl
  · have h2 : l = l.take k ++ prAt l k :: l.drop (k + 1) := by
      have := pr_take l k hk
      conv => lhs; rw [← List.take_append_drop (k + 1) l, this]
      simp
    have h3 : fmtFirst l = prE (prAt l k) := by
      rw [h2, happ _ _ h]; unfold fmtFirst
      rw [← h2, if_neg e]
    have h4 : fmtE l = prE (prAt l k) := by unfold fmtE; rw [h3, if_neg e]
    exact ⟨h4, by unfold fmtV; rw [h4, if_neg e]⟩
theorem fmt_end {l : List Pr} (h : fmtFirst (l.take l.length) = 0) : (8 < l.length → fmtE l = 3 ∧ fmtV l = ByteArray.empty) ∧ (¬ 8 < l.length → fmtE l = 0 ∧ fmtV l = ofB (fmtK l l.length)) := by
  rw [List.take_length] at h
  refine ⟨fun hl => ?_, fun hl => ?_⟩
  · have h4 : fmtE l = 3 := by unfold fmtE; rw [if_pos h, if_pos hl]
    exact ⟨h4, by unfold fmtV; rw [h4]; rfl⟩
  · have h4 : fmtE l = 0 := by unfold fmtE; rw [if_pos h, if_neg hl]
    exact ⟨h4, by unfold fmtV fmtK; rw [if_pos h4, List.take_length]⟩

theorem B7lt {B b : Nat} {l : List UInt8} {w : World} (h : Bld B b l w) : b < w.heap.size := by
  rcases h with h | h <;> exact h.lt

set_option maxRecDepth 100000 in
set_option maxHeartbeats 8000000 in
theorem format_s (ao : Option Addr) (n cap : Nat) (l : List Pr) (w : World) (h : PairsAt w ao n cap l) (hsm : Small l) :
    Calls Tryz.prog 159 #[.slice ao n cap] w fun e w' => e = .returned (.tuple #[.string (fmtV l), .int .i64 (fmtE l)]) ∧ Below w.heap.size w w' := by
  obtain ⟨h1, h2, h3, h4⟩ := h
  subst h1
  have HS := Lib.hid hsm
  have hl0 := hsm.1
  clear hsm
  have HN := Lib.hid (bld_new w)
  have H4 := Lib.hid h4; clear h4
  go_enter Tryz.func159, Tryz.ntmps159
  go_wp2
  go_loopw [10] (fun i wr => ∃ k : Nat, k ≤ l.length ∧ i = .int .i64 k ∧ Bld w.heap.size w.heap.size (fmtK l k) wr ∧ Below w.heap.size w wr ∧ w.heap.size < wr.heap.size ∧ Hid (fmtFirst (l.take k) = 0))
    (fun i _ => l.length - (intOf i).toNat)
  case atStart => exact ⟨0, Nat.zero_le _, rfl, HN.out, (Below.refl _ _).alloc (Nat.le_refl _) _, by simp, Lib.hid rfl⟩
  case round =>
    obtain ⟨k, hk, rfl, HBd, hbel, hsz, HF⟩ := hrel
    have hln := fmtK_len HS.out k
    by_cases hlt : k < l.length
    · obtain ⟨b, off, rfl, hs⟩ := H4.out (by omega)
      obtain ⟨hc1, hc2⟩ := (hs.below hbel hs.1).2 k hlt
      obtain ⟨hpk, hpv⟩ := HS.out.2 k hlt
      have HST := Lib.hid (fmtFirst_step HF.out hlt)
      have HK1 := Lib.hid (fun (_ : k = 0) => fmtK_first l (by omega))
      have HK2 := Lib.hid (fun (h0 : 0 < k) => fmtK_next l k hlt h0)
      obtain ⟨⟨p, q⟩, hpe⟩ : ∃ p, p = prAt l k := ⟨_, rfl⟩
      have HPE := Lib.hid hpe
      rw [← hpe] at hc1 hc2 hpk hpv HST HK2
      simp only [] at hc1 hc2 hpk hpv
      clear hs hpe
      have hfz := foldS_size q
      have hlz := lowS_size p
      have hez := escS_size (foldS q)
      go_wp2_with fail
      refine (check_s (p, q) _ (by simp only []; omega) (by simp only []; omega)).mono ?_
      rintro e w1 ⟨rfl, hb1⟩
      have hbx := (pbox_new wr (p, q)).below hb1
      have hbl := (below_new (w := wr) (.cells #[.string p, .string q] 131))
      have hb01 := below_next hbl hb1
      have L1 := hbel.trans (hb01.mono hbel.size)
      have B1 := HBd.below hb01
      by_cases hE : prE (p, q) = 0
      · have HFN := Lib.hid (HST.out.1 hE)
        rw [hE]
        clear hE HST hc1 hc2
        obtain ⟨d0, d1⟩ := hbx.cells
        simp only [] at d0 d1
        by_cases hk0 : k = 0
        · have HK := Lib.hid (show fmtK l (k + 1) = fmtK l k ++ (lowS p).data.toList ++ [61] ++ (escS (foldS q)).data.toList by
            have := HK1.out hk0
            subst hk0
            rw [← HPE.out] at this
            exact this)
          have hd0 : decide (0 < k) = false := by simp; omega
          clear hk0 HK1 HK2
          clear d1
          go_wp2_with fail
          refine (lower_s p _ (by omega)).mono ?_
          rintro e w2 ⟨rfl, hb2⟩
          have B2 := B1.below hb2
          have L2 := L1.trans (hb2.mono L1.size)
          have X2 := hbx.below hb2
          clear d0
          go_wp2_with fail
          refine (writeString_t w.heap.size w.heap.size _ _ _ B2 (by (try simp only [List.length_append, List.length_cons, List.length_nil]); omega) L2.size).mono ?_
          rintro e w3 ⟨rfl, B3, hb3, hk3⟩
          have L3 := L2.trans hb3
          have X3 := hk3.box X2
          go_wp2_with fail
          refine (writeByte_t w.heap.size w.heap.size _ 61 61 _ B3 rfl (by simp only [List.length_append, List.length_cons, List.length_nil, ← Lib.size_eq]; omega) L3.size).mono ?_
          rintro e w4 ⟨rfl, B4, hb4, hk4⟩
          have L4 := L3.trans hb4
          have X4 := hk4.box X3
          obtain ⟨d0, d1⟩ := X4.cells
          simp only [] at d0 d1
          clear d0
          go_wp2_with fail
          refine (fold_s q _ (by omega)).mono ?_
          rintro e w5 ⟨rfl, hb5⟩
          have B5 := B4.below hb5
          have L5 := L4.trans (hb5.mono L4.size)
          clear d1
          go_wp2_with fail
          refine (escaped_s (foldS q) _ (by omega)).mono ?_
          rintro e w6 ⟨rfl, hb6⟩
          have B6 := B5.below hb6
          have L6 := L5.trans (hb6.mono L5.size)
          go_wp2_with fail
          refine (writeString_t w.heap.size w.heap.size _ _ _ B6 (by simp only [List.length_append, List.length_cons, List.length_nil, ← Lib.size_eq]; omega) L6.size).mono ?_
          rintro e w7 ⟨rfl, B7, hb7, hk7⟩
          have L7 := L6.trans hb7
          have hsz7 : w.heap.size < w7.heap.size := B7lt B7
          go_wp2
          go_roundw
          case rel => exact ⟨k + 1, by omega, by go_num, by rw [HK.out]; exact B7, L7, hsz7, HFN⟩
          case measure => simp [intOf]; omega
        · have HK := Lib.hid (HK2.out (by omega))
          have hd0 : decide (0 < k) = true := by simp; omega
          clear hk0 HK1 HK2
          go_wp2_with fail
          refine (writeByte_t w.heap.size w.heap.size _ 44 44 _ B1 rfl (by omega) L1.size).mono ?_
          rintro e w0 ⟨rfl, B0, hb0, hk0⟩
          have L0 := L1.trans hb0
          have X0 := hk0.box hbx
          clear d0 d1
          obtain ⟨d0, d1⟩ := X0.cells
          simp only [] at d0 d1
          clear d1
          go_wp2_with fail
          refine (lower_s p _ (by omega)).mono ?_
          rintro e w2 ⟨rfl, hb2⟩
          have B2 := B0.below hb2
          have L2 := L0.trans (hb2.mono L0.size)
          have X2 := X0.below hb2
          clear d0
          go_wp2_with fail
          refine (writeString_t w.heap.size w.heap.size _ _ _ B2 (by (try simp only [List.length_append, List.length_cons, List.length_nil]); omega) L2.size).mono ?_
          rintro e w3 ⟨rfl, B3, hb3, hk3⟩
          have L3 := L2.trans hb3
          have X3 := hk3.box X2
          go_wp2_with fail
          refine (writeByte_t w.heap.size w.heap.size _ 61 61 _ B3 rfl (by simp only [List.length_append, List.length_cons, List.length_nil, ← Lib.size_eq]; omega) L3.size).mono ?_
          rintro e w4 ⟨rfl, B4, hb4, hk4⟩
          have L4 := L3.trans hb4
          have X4 := hk4.box X3
          obtain ⟨d0, d1⟩ := X4.cells
          simp only [] at d0 d1
          clear d0
          go_wp2_with fail
          refine (fold_s q _ (by omega)).mono ?_
          rintro e w5 ⟨rfl, hb5⟩
          have B5 := B4.below hb5
          have L5 := L4.trans (hb5.mono L4.size)
          clear d1
          go_wp2_with fail
          refine (escaped_s (foldS q) _ (by omega)).mono ?_
          rintro e w6 ⟨rfl, hb6⟩
          have B6 := B5.below hb6
          have L6 := L5.trans (hb6.mono L5.size)
          go_wp2_with fail
          refine (writeString_t w.heap.size w.heap.size _ _ _ B6 (by simp only [List.length_append, List.length_cons, List.length_nil, ← Lib.size_eq]; omega) L6.size).mono ?_
          rintro e w7 ⟨rfl, B7, hb7, hk7⟩
          have L7 := L6.trans hb7
          have hsz7 : w.heap.size < w7.heap.size := B7lt B7
          go_wp2
          go_roundw
          case rel => exact ⟨k + 1, by omega, by go_num, by rw [HK.out]; exact B7, L7, hsz7, HFN⟩
          case measure => simp [intOf]; omega
      · have HFN := Lib.hid (HST.out.2 hE)
        have q0 : (prE (p, q) != 0) = true := by simpa using hE
        clear hE HST hc1 hc2
        generalize prE (p, q) = e0 at q0 HFN ⊢
        go_wp2
        go_ret2
        exact ⟨by rw [HFN.out.1, HFN.out.2]; rfl, L1⟩
    · have HT := Lib.hid (show k = l.length by omega)
      rw [HT.out] at HBd HF
      by_cases h8 : 8 < l.length
      · have HE := Lib.hid ((fmt_end HF.out).1 h8)
        have hd8 : decide ((8 : Int) < (l.length : Int)) = true := decide_eq_true (by omega)
        go_wp2
        go_ret2
        exact ⟨by rw [HE.out.1, HE.out.2]; rfl, hbel⟩
      · have HE := Lib.hid ((fmt_end HF.out).2 h8)
        have hd8 : decide ((8 : Int) < (l.length : Int)) = false := decide_eq_false (by omega)
        go_wp2_with (go_at_call 71; refine (string_s w.heap.size w.heap.size _ _ HBd hbel.size).mono ?_; rintro e w1 ⟨rfl, hb1⟩)
        go_ret2
        exact ⟨by rw [HE.out.1, HE.out.2]; rfl, hbel.trans hb1⟩

end Nam
end Go.Proofs.YtclfjdnemafmeaaGreatDoor
end

section
/-
  The contract of the specification's Format. Condition: at most 1000 pairs of strings of at most 1000000 bytes.
-/
set_option maxRecDepth 100000
set_option linter.unusedVariables false
set_option linter.unusedSimpArgs false
set_option linter.unnecessarySimpa false
namespace Go.Proofs.YtclfjdnemafmeaaGreatDoor
namespace Nam
open Go.RowKit Go.PlainAid

/-- 'b = append(b, s...)' where b is the call's own -/
theorem push_all {ops : Array Oper} {rest : List Oper} {o : Oper} {a : Act} {Q : Exit → Act → World → Prop} (wr : World) {base : Nat} {v : Value} {n : Nat} {xs : List Value} (hown : wr.ownsRow base 5 1 v n xs) (s x : Operand)
    (t : ByteArray) (hgd : o.guard = none)
    (ho : o.op = .call { callee := .builtin .append, args := #[s, x], argTypes := #[95, 9] })
    (hs : a.eval s = v) (hx : a.eval x = .string t) (hn : n + t.size ≤ 140737488355328) (hbase : base ≤ wr.heap.size)
    (h : ∀ v' w', w'.ownsRow base 5 1 v' (n + t.size) (xs ++ bcells t.data.toList) → Below base wr w' → wpList Tryz.prog ops Q rest (a.put o.dst v') w') :
    wpList Tryz.prog ops Q (o :: rest) a wr := by
  obtain ⟨i0, hi, hz0, hz1, hz2⟩ := info_parts info5
  refine Lib.wpList_append_own_string wr hgd s x 95 9 ho base 5 i0 Tryz.underlying95 Tryz.underlying9 hi hz0 hz1 hz2 v n xs hs hown t hx (by unfold maxLen; omega) (by omega) (by omega) ?_
  intro v' w' h1 h2 _
  refine h v' w' (by rw [← strCells_b]; exact h1) ?_
  exact (Below.refl base wr).grown h2 hbase (fun k hk => (hown.lt k hk).1)
theorem bcells_one' (c : UInt8) : bcells [c] = [.int .u8 (c.toNat : Int)] := rfl

set_option maxRecDepth 100000 in
set_option maxHeartbeats 8000000 in
theorem rformat_s (ao : Option Addr) (n cap : Nat) (l : List Pr) (w : World) (h : PairsAt w ao n cap l) (hsm : Small l) :
    Calls Tryz.prog 127 #[.slice ao n cap] w fun e w' => e = .returned (.tuple #[.string (fmtV l), .int .i64 (fmtE l)]) ∧ Below w.heap.size w w' := by
  obtain ⟨h1, h2, h3, h4⟩ := h
  subst h1
  have HS := Lib.hid hsm
  have hl0 := hsm.1
  clear hsm
  have H4 := Lib.hid h4; clear h4
  go_enter Tryz.func127, Tryz.ntmps127
  go_wp2
  go_loopw [4, 5] (fun bv i wr => ∃ k : Nat, k ≤ l.length ∧ i = .int .i64 k ∧ wr.ownsRow w.heap.size 5 1 bv (fmtK l k).length (bcells (fmtK l k)) ∧ Below w.heap.size w wr ∧ Hid (fmtFirst (l.take k) = 0))
    (fun _ i _ => l.length - (intOf i).toNat)
  case atStart => exact ⟨0, Nat.zero_le _, rfl, World.ownsRow_nil _ _ _ _, Below.refl _ _, Lib.hid rfl⟩
  case round =>
    obtain ⟨k, hk, rfl, hown, hbel, HF⟩ := hrel
    have hln := fmtK_len HS.out k
    by_cases hlt : k < l.length
    · obtain ⟨b, off, rfl, hs⟩ := H4.out (by omega)
      have HC := Lib.hid (show ∀ w', Below w.heap.size w w' → w'.cell? ⟨b, off + k * 2, none⟩ = some (.string (prAt l k).1) ∧ w'.cell? ⟨b, off + k * 2 + 1, none⟩ = some (.string (prAt l k).2) from fun w' hb => (hs.below hb hs.1).2 k hlt)
      obtain ⟨hpk, hpv⟩ := HS.out.2 k hlt
      have HST := Lib.hid (fmtFirst_step HF.out hlt)
      have HK1 := Lib.hid (fun (_ : k = 0) => fmtK_first l (by omega))
      have HK2 := Lib.hid (fun (h0 : 0 < k) => fmtK_next l k hlt h0)
      obtain ⟨⟨p, q⟩, hpe⟩ : ∃ p, p = prAt l k := ⟨_, rfl⟩
      have HPE := Lib.hid hpe
      rw [← hpe] at HC hpk hpv HST HK2
      simp only [] at HC hpk hpv
      clear hs hpe
      have hfz := foldS_size q
      have hlz := lowS_size p
      obtain ⟨hc1, hc2⟩ := HC.out _ hbel
      cases n1 : nameB p
      · have HFN := Lib.hid (show fmtE l = 5 ∧ fmtV l = ByteArray.empty by
          have hp1 : prE (p, q) = 5 := by unfold prE; rw [if_pos n1]
          have := HST.out.2 (by rw [hp1]; decide)
          rw [hp1] at this; exact this)
        clear hc2
        go_wp2_with (go_at_call 43; refine (rName_s p _ (by omega)).mono ?_; rintro e w' ⟨rfl, rfl⟩; rw [n1])
        go_ret2
        exact ⟨by rw [HFN.out.1, HFN.out.2]; rfl, hbel⟩
      · cases n2 : cleanB q
        · have HFN := Lib.hid (show fmtE l = 8 ∧ fmtV l = ByteArray.empty by
            have hp1 : prE (p, q) = 8 := by unfold prE; simp only []; rw [if_neg (by rw [n1]; decide), if_pos n2]
            have := HST.out.2 (by rw [hp1]; decide)
            rw [hp1] at this; exact this)
          go_wp2_with (first
            | (go_at_call 43; refine (rName_s p _ (by omega)).mono ?_; rintro e w' ⟨rfl, rfl⟩; rw [n1])
            | (go_at_call 55; refine (rClean_s q _ (by omega)).mono ?_; rintro e w' ⟨rfl, rfl⟩; rw [n2]))
          go_ret2
          exact ⟨by rw [HFN.out.1, HFN.out.2]; rfl, hbel⟩
        · have HFN := Lib.hid (HST.out.1 (by unfold prE; simp only []; rw [if_neg (by rw [n1]; decide), if_neg (by rw [n2]; decide)]))
          clear HST
          by_cases hk0 : k = 0
          · skip
            have HK := Lib.hid (show fmtK l (k + 1) = fmtK l k ++ (lowS p).data.toList ++ [61] ++ (escS (foldS q)).data.toList by
              have := HK1.out hk0
              subst hk0
              rw [← HPE.out] at this
              exact this)
            have hd0 : decide (0 < k) = false := by simp; omega
            clear hk0 HK1 HK2
            obtain ⟨pre0, hpre0⟩ : ∃ x, x = fmtK l k := ⟨_, rfl⟩
            rw [← hpre0] at hown hln HK
            have HP0 := Lib.hid hpre0; clear hpre0
            have own0 := hown
            have L0 := hbel
            go_wp2_with (first
              | (go_at_call 43; refine (rName_s p _ (by omega)).mono ?_; rintro e w' ⟨rfl, rfl⟩; rw [n1])
              | (go_at_call 55; refine (rClean_s q _ (by omega)).mono ?_; rintro e w' ⟨rfl, rfl⟩; rw [n2])
              | (go_at_call 80; refine (rLower_s p _ (by omega)).mono ?_; rintro e w1 ⟨rfl, hb1⟩; have L1 := L0.trans (hb1.mono L0.size); have own1 := own_below own0 hb1)
              | (at_builtin; refine push_all _ own1 (.tmp 33) (.tmp 39) (lowS p) ?_ ?_ ?_ ?_ ?_ ?_ ?_; exact rfl; exact rfl; exact rfl; exact rfl; omega; exact L1.size; intro v2 w2 own2 hb2; have L2 := L1.trans hb2)
              | (at_builtin; refine push_byte _ own2 (.tmp 41) (.tmp 42) _ ?_ ?_ ?_ ?_ ?_ ?_ ?_; exact rfl; exact rfl; exact rfl; exact rfl; omega; exact L2.size; intro v3 w3 own3 hb3; have L3 := L2.trans hb3; clear hc1 hc2; obtain ⟨hc1, hc2⟩ := HC.out _ L3)
              | (go_at_call 65; refine (rFold_s q _ (by omega)).mono ?_; rintro e w4 ⟨rfl, hb4⟩; have L4 := L3.trans (hb4.mono L3.size); have own4 := own_below own3 hb4))
            obtain ⟨t, htt⟩ : ∃ t, t = foldS q := ⟨_, rfl⟩
            rw [← htt] at hfz ⊢
            have HTT := Lib.hid htt; clear htt
            rw [← HTT.out] at HK
            have hbt := get_bt t
            have hlow : (lowS p).data.toList.length = (lowS p).size := (Lib.size_eq _).symm
            obtain ⟨pre, hpre⟩ : ∃ x, x = pre0 ++ (lowS p).data.toList ++ [61] := ⟨_, rfl⟩
            have hpl : pre0.length + (lowS p).size + 1 = pre.length := by rw [hpre]; simp only [List.length_append, List.length_cons, List.length_nil, hlow]
            have own5 : w4.ownsRow w.heap.size 5 1 v3 pre.length (bcells pre) := by
              rw [hpl] at own4
              have e : bcells pre = bcells pre0 ++ bcells (lowS p).data.toList ++ [.int .u8 61] := by rw [hpre, bcells_append, bcells_append]; rfl
              rw [e]; exact own4
            rw [← hpre] at HK
            have HPR := Lib.hid hpre; clear hpre own4 own3 own2 own1 own0 hown hc1 hc2
            clear HC
            go_loopw [4, 7] (fun bv i wx => ∃ j : Nat, j ≤ t.size ∧ i = .int .i64 j ∧ wx.ownsRow w.heap.size 5 1 bv (pre ++ escV (t.data.toList.take j)).length (bcells (pre ++ escV (t.data.toList.take j))) ∧ Below w.heap.size w wx)
              (fun _ i _ => t.size - (intOf i).toNat)
            case atStart => exact ⟨0, Nat.zero_le _, rfl, by simpa [escV] using own5, L4⟩
            case round =>
              obtain ⟨j, hj, rfl, ownx, Lx⟩ := hrel
              clear own5
              have hl3 := escV_len (t.data.toList.take j)
              have hl4 : (t.data.toList.take j).length ≤ j := List.length_take_le _ _
              have hl5 : (pre ++ escV (t.data.toList.take j)).length ≤ 100000000000 := by rw [List.length_append]; omega
              by_cases hjt : j < t.size
              · have HSTE := Lib.hid (escV_step t j hjt)
                have HCC := Lib.hid (bt_chr t j)
                obtain ⟨cur, hcur⟩ : ∃ x, x = pre ++ escV (t.data.toList.take j) := ⟨_, rfl⟩
                rw [← hcur] at ownx hl5
                have HCU := Lib.hid hcur; clear hcur
                cases c1 : spec4 (chr t j)
                · have HEND := Lib.hid (show pre ++ escV (t.data.toList.take (j + 1)) = cur ++ [chr t j] by rw [HCU.out, HSTE.out]; unfold escB; rw [c1]; simp)
                  go_wp2_with (first
                    | (go_at_call 162; refine (special_s _ (chr t j) _ HCC.out).mono ?_; rintro e w' ⟨rfl, rfl⟩; rw [c1])
                    | (at_builtin; refine push_byte _ ownx (.tmp 63) (.tmp 67) _ ?_ ?_ ?_ ?_ ?_ ?_ ?_; exact rfl; exact rfl; exact rfl; exact rfl; omega; exact Lx.size; intro v6 w6 own6 hb6))
                  go_roundw
                  case rel => exact ⟨j + 1, by omega, by go_num, by rw [HEND.out, List.length_append, bcells_append, bcells_one']; rw [HCC.out] at own6; exact own6, Lx.trans hb6⟩
                  case measure => simp [intOf]; omega
                · have HEND := Lib.hid (show pre ++ escV (t.data.toList.take (j + 1)) = (cur ++ [92]) ++ [chr t j] by rw [HCU.out, HSTE.out]; unfold escB; rw [c1]; simp)
                  go_wp2_with (first
                    | (go_at_call 162; refine (special_s _ (chr t j) _ HCC.out).mono ?_; rintro e w' ⟨rfl, rfl⟩; rw [c1])
                    | (at_builtin; refine push_byte _ ownx (.tmp 60) (.tmp 61) _ ?_ ?_ ?_ ?_ ?_ ?_ ?_; exact rfl; exact rfl; exact rfl; exact rfl; omega; exact Lx.size; intro v5 w5 own5 hb5; have L5 := Lx.trans hb5)
                    | (at_builtin; refine push_byte _ own5 (.tmp 63) (.tmp 67) _ ?_ ?_ ?_ ?_ ?_ ?_ ?_; exact rfl; exact rfl; exact rfl; exact rfl; omega; exact L5.size; intro v6 w6 own6 hb6))
                  go_roundw
                  case rel => exact ⟨j + 1, by omega, by go_num, by rw [HEND.out, List.length_append, List.length_append, bcells_append, bcells_append, bcells_one', bcells_one']; rw [HCC.out] at own6; exact own6, L5.trans hb6⟩
                  case measure => simp [intOf]; omega
              · have HT := Lib.hid (show fmtK l (k + 1) = pre ++ escV (t.data.toList.take j) by
                  rw [HK.out, List.take_of_length_le (show t.data.toList.length ≤ j by rw [← Lib.size_eq]; omega)]; rfl)
                rw [← HT.out] at ownx
                go_wp2
                go_roundw
                case rel => exact ⟨k + 1, by omega, by go_num, ownx, Lx, HFN⟩
                case measure => simp [intOf]; omega
          · skip
            have HK := Lib.hid (HK2.out (by omega))
            have hd0 : decide (0 < k) = true := by simp; omega
            clear hk0 HK1 HK2
            obtain ⟨preA, hpreA⟩ : ∃ x, x = fmtK l k := ⟨_, rfl⟩
            rw [← hpreA] at hown hln HK
            have HPA := Lib.hid hpreA; clear hpreA
            go_wp2_with (first
              | (go_at_call 43; refine (rName_s p _ (by omega)).mono ?_; rintro e w' ⟨rfl, rfl⟩; rw [n1])
              | (go_at_call 55; refine (rClean_s q _ (by omega)).mono ?_; rintro e w' ⟨rfl, rfl⟩; rw [n2])
              | (at_builtin; refine push_byte _ hown (.tmp 30) (.tmp 31) _ ?_ ?_ ?_ ?_ ?_ ?_ ?_; exact rfl; exact rfl; exact rfl; exact rfl; omega; exact hbel.size; intro v0 w0 own0 hb0; have L0 := hbel.trans hb0; clear hc1 hc2; obtain ⟨hc1, hc2⟩ := HC.out _ L0)
              | (go_at_call 80; refine (rLower_s p _ (by omega)).mono ?_; rintro e w1 ⟨rfl, hb1⟩; have L1 := L0.trans (hb1.mono L0.size); have own1 := own_below own0 hb1)
              | (at_builtin; refine push_all _ own1 (.tmp 33) (.tmp 39) (lowS p) ?_ ?_ ?_ ?_ ?_ ?_ ?_; exact rfl; exact rfl; exact rfl; exact rfl; omega; exact L1.size; intro v2 w2 own2 hb2; have L2 := L1.trans hb2)
              | (at_builtin; refine push_byte _ own2 (.tmp 41) (.tmp 42) _ ?_ ?_ ?_ ?_ ?_ ?_ ?_; exact rfl; exact rfl; exact rfl; exact rfl; omega; exact L2.size; intro v3 w3 own3 hb3; have L3 := L2.trans hb3; clear hc1 hc2; obtain ⟨hc1, hc2⟩ := HC.out _ L3)
              | (go_at_call 65; refine (rFold_s q _ (by omega)).mono ?_; rintro e w4 ⟨rfl, hb4⟩; have L4 := L3.trans (hb4.mono L3.size); have own4 := own_below own3 hb4))
            obtain ⟨t, htt⟩ : ∃ t, t = foldS q := ⟨_, rfl⟩
            rw [← htt] at hfz ⊢
            have HTT := Lib.hid htt; clear htt
            rw [← HTT.out] at HK
            have hbt := get_bt t
            have hlow : (lowS p).data.toList.length = (lowS p).size := (Lib.size_eq _).symm
            obtain ⟨pre, hpre⟩ : ∃ x, x = preA ++ [44] ++ (lowS p).data.toList ++ [61] := ⟨_, rfl⟩
            have hpl : (preA.length + 1) + (lowS p).size + 1 = pre.length := by rw [hpre]; simp only [List.length_append, List.length_cons, List.length_nil, hlow]
            have own5 : w4.ownsRow w.heap.size 5 1 v3 pre.length (bcells pre) := by
              rw [hpl] at own4
              have e : bcells pre = bcells preA ++ [.int .u8 44] ++ bcells (lowS p).data.toList ++ [.int .u8 61] := by rw [hpre, bcells_append, bcells_append, bcells_append]; rfl
              rw [e]; exact own4
            rw [← hpre] at HK
            have HPR := Lib.hid hpre; clear hpre own4 own3 own2 own1 own0 hown hc1 hc2
            clear HC
            go_loopw [4, 7] (fun bv i wx => ∃ j : Nat, j ≤ t.size ∧ i = .int .i64 j ∧ wx.ownsRow w.heap.size 5 1 bv (pre ++ escV (t.data.toList.take j)).length (bcells (pre ++ escV (t.data.toList.take j))) ∧ Below w.heap.size w wx)
              (fun _ i _ => t.size - (intOf i).toNat)
            case atStart => exact ⟨0, Nat.zero_le _, rfl, by simpa [escV] using own5, L4⟩
            case round =>
              obtain ⟨j, hj, rfl, ownx, Lx⟩ := hrel
              clear own5
              have hl3 := escV_len (t.data.toList.take j)
              have hl4 : (t.data.toList.take j).length ≤ j := List.length_take_le _ _
              have hl5 : (pre ++ escV (t.data.toList.take j)).length ≤ 100000000000 := by rw [List.length_append]; omega
              by_cases hjt : j < t.size
              · have HSTE := Lib.hid (escV_step t j hjt)
                have HCC := Lib.hid (bt_chr t j)
                obtain ⟨cur, hcur⟩ : ∃ x, x = pre ++ escV (t.data.toList.take j) := ⟨_, rfl⟩
                rw [← hcur] at ownx hl5
                have HCU := Lib.hid hcur; clear hcur
                cases c1 : spec4 (chr t j)
                · have HEND := Lib.hid (show pre ++ escV (t.data.toList.take (j + 1)) = cur ++ [chr t j] by rw [HCU.out, HSTE.out]; unfold escB; rw [c1]; simp)
                  go_wp2_with (first
                    | (go_at_call 162; refine (special_s _ (chr t j) _ HCC.out).mono ?_; rintro e w' ⟨rfl, rfl⟩; rw [c1])
                    | (at_builtin; refine push_byte _ ownx (.tmp 63) (.tmp 67) _ ?_ ?_ ?_ ?_ ?_ ?_ ?_; exact rfl; exact rfl; exact rfl; exact rfl; omega; exact Lx.size; intro v6 w6 own6 hb6))
                  go_roundw
                  case rel => exact ⟨j + 1, by omega, by go_num, by rw [HEND.out, List.length_append, bcells_append, bcells_one']; rw [HCC.out] at own6; exact own6, Lx.trans hb6⟩
                  case measure => simp [intOf]; omega
                · have HEND := Lib.hid (show pre ++ escV (t.data.toList.take (j + 1)) = (cur ++ [92]) ++ [chr t j] by rw [HCU.out, HSTE.out]; unfold escB; rw [c1]; simp)
                  go_wp2_with (first
                    | (go_at_call 162; refine (special_s _ (chr t j) _ HCC.out).mono ?_; rintro e w' ⟨rfl, rfl⟩; rw [c1])
                    | (at_builtin; refine push_byte _ ownx (.tmp 60) (.tmp 61) _ ?_ ?_ ?_ ?_ ?_ ?_ ?_; exact rfl; exact rfl; exact rfl; exact rfl; omega; exact Lx.size; intro v5 w5 own5 hb5; have L5 := Lx.trans hb5)
                    | (at_builtin; refine push_byte _ own5 (.tmp 63) (.tmp 67) _ ?_ ?_ ?_ ?_ ?_ ?_ ?_; exact rfl; exact rfl; exact rfl; exact rfl; omega; exact L5.size; intro v6 w6 own6 hb6))
                  go_roundw
                  case rel => exact ⟨j + 1, by omega, by go_num, by rw [HEND.out, List.length_append, List.length_append, bcells_append, bcells_append, bcells_one', bcells_one']; rw [HCC.out] at own6; exact own6, L5.trans hb6⟩
                  case measure => simp [intOf]; omega
              · have HT := Lib.hid (show fmtK l (k + 1) = pre ++ escV (t.data.toList.take j) by
                  rw [HK.out, List.take_of_length_le (show t.data.toList.length ≤ j by rw [← Lib.size_eq]; omega)]; rfl)
                rw [← HT.out] at ownx
                go_wp2
                go_roundw
                case rel => exact ⟨k + 1, by omega, by go_num, ownx, Lx, HFN⟩
                case measure => simp [intOf]; omega
    · have HT := Lib.hid (show k = l.length by omega)
      rw [HT.out] at hown HF
      by_cases h8 : 8 < l.length
      · have HE := Lib.hid ((fmt_end HF.out).1 h8)
        have hd8 : decide ((8 : Int) < (l.length : Int)) = true := decide_eq_true (by omega)
        go_wp2
        go_ret2
        exact ⟨by rw [HE.out.1, HE.out.2]; rfl, hbel⟩
      · have HE := Lib.hid ((fmt_end HF.out).2 h8)
        have hd8 : decide ((8 : Int) < (l.length : Int)) = false := decide_eq_false (by omega)
        have hbk := back hown
        go_wp2
        go_ret2
        exact ⟨by rw [HE.out.1, HE.out.2]; rfl, hbel⟩

end Nam
end Go.Proofs.YtclfjdnemafmeaaGreatDoor
end

section
/-
  The contract of the specification's SamePairs. No condition.
-/
set_option maxRecDepth 100000
set_option linter.unusedVariables false
set_option linter.unusedSimpArgs false
set_option linter.unnecessarySimpa false
namespace Go.Proofs.YtclfjdnemafmeaaGreatDoor
namespace Nam
open Go.RowKit Go.PlainAid

theorem pairs_ext {ps qs : List Pr} (hl : ps.length = qs.length) (h : ∀ j, j < ps.length → prAt ps j = prAt qs j) : ps = qs := by
  apply List.ext_getElem hl
  intro j h1 h2
  have := h j h1
  unfold prAt at this
  rw [List.getD_eq_getElem?_getD, List.getD_eq_getElem?_getD, List.getElem?_eq_getElem h1, List.getElem?_eq_getElem h2] at this
  simpa using this

end Nam
end Go.Proofs.YtclfjdnemafmeaaGreatDoor
end

section
/-
  Contracts of Clean, Valid, Depth, Parent and of what returns the components of a normal form, in the program and in the specification. Condition: at most 1000000 bytes.
-/
set_option maxRecDepth 100000
set_option linter.unusedVariables false
set_option linter.unusedSimpArgs false
set_option linter.unnecessarySimpa false
namespace Go.Proofs.YtclfjdnemafmeaaGreatDoor
namespace Nam
open Go.RowKit Go.PlainAid

theorem prE_small {p : Pr} (h : prE p = 0) : p.1.size ≤ 64 ∧ p.2.size ≤ 256 := by
  obtain ⟨h1, h2⟩ := (prE_zero p).1 h
  unfold nameB at h1
  unfold cleanB at h2
  simp only [Bool.and_eq_true, decide_eq_true_eq] at h1 h2
  exact ⟨h1.1.1.2, h2.1.1.1.2⟩
theorem small_fine {l : List Pr} (h : ∀ p ∈ l, prE p = 0) (h8 : l.length ≤ 8) : Small l := small_of l (by omega) fun p hp => by have := prE_small (h p hp); omega
theorem small_parse (s : ByteArray) : Small (parseV s) := by
  by_cases h : parseE s = 0
  · exact small_fine (parseV_ok h).1 (parseV_ok h).2
  · unfold parseV; rw [if_neg h]; exact ⟨by simp, fun j hj => by simp at hj⟩
theorem small_comps (s : ByteArray) : Small (compsV s) := by
  unfold compsV; split
  · exact small_parse s
  · exact ⟨by simp, fun j hj => by simp at hj⟩
theorem str_eq (a b : ByteArray) : (a.toList == b.toList) = decide (a = b) := by
  rw [Lib.toList_data, Lib.toList_data, Bool.eq_iff_iff, beq_iff_eq, decide_eq_true_eq]
  exact ⟨fun h => by rw [← Lib.mk_data a, ← Lib.mk_data b, h], fun h => by rw [h]⟩

/-- what returns the components: a value that owns them, and whether the string is in normal form -/
def CompsPost (s : ByteArray) (w : World) (e : Ending) (w' : World) : Prop :=
  ∃ v, e = .returned (.tuple #[v, .bool (normB s)]) ∧ w'.ownsRow w.heap.size 131 2 v (compsV s).length (pcells (compsV s)) ∧ Below w.heap.size w w'

set_option maxRecDepth 100000 in
set_option maxHeartbeats 2000000 in
theorem components_s (s : ByteArray) (w : World) (hs : s.size ≤ 1000000) :
    Calls Tryz.prog 131 #[.string s] w (CompsPost s w) := by
  go_enter Tryz.func131, Tryz.ntmps131
  go_wp2_with fail
  refine (parse_s s _ hs).mono ?_
  rintro e w1 ⟨v, rfl, hown, hb⟩
  by_cases hE : parseE s = 0
  · obtain ⟨ao, cap, rfl, hat⟩ := pairs_own hown rfl
    have hF := fmt_parse_ok hE
    rw [hE]
    go_wp2_with fail
    refine (format_s ao _ cap (parseV s) _ hat (small_parse s)).mono ?_
    rintro e w2 ⟨rfl, hb2⟩
    rw [hF]
    have hown2 := own_below hown hb2
    have L2 := hb.trans (hb2.mono hb.size)
    by_cases hq : fmtV (parseV s) = s
    · have HN := Lib.hid (show normB s = true from (norm_iff s).2 ⟨hE, hq⟩)
      have HV := Lib.hid (show compsV s = parseV s by unfold compsV; rw [HN.out]; rfl)
      have q1 : ((fmtV (parseV s)).toList == s.toList) = true := by rw [str_eq]; exact decide_eq_true hq
      have q2 : ((fmtV (parseV s)).toList != s.toList) = false := by unfold bne; rw [q1]; rfl
      clear hq hE hF
      go_wp2
      go_ret2
      exact ⟨_, by rw [HN.out]; rfl, by rw [HV.out]; exact hown2, L2⟩
    · have HN := Lib.hid (show normB s = false by rw [Bool.eq_false_iff]; intro e; exact hq ((norm_iff s).1 e).2)
      have q1 : ((fmtV (parseV s)).toList == s.toList) = false := by rw [str_eq]; exact decide_eq_false hq
      have q2 : ((fmtV (parseV s)).toList != s.toList) = true := by unfold bne; rw [q1]; rfl
      clear hq hE hF
      go_wp2
      go_ret2
      exact ⟨_, by rw [HN.out]; rfl, by rw [comps_none HN.out]; exact World.ownsRow_nil _ _ _ _, L2⟩
  · have HN := Lib.hid (show normB s = false by rw [Bool.eq_false_iff]; intro e; exact hE ((norm_iff s).1 e).1)
    have q0 : (parseE s != 0) = true := by simpa using hE
    clear hE
    generalize parseE s = k at q0 ⊢
    go_wp2
    go_ret2
    exact ⟨_, by rw [HN.out]; rfl, by rw [comps_none HN.out]; exact World.ownsRow_nil _ _ _ _, hb⟩

set_option maxRecDepth 100000 in
set_option maxHeartbeats 2000000 in
theorem clean0_s (s : ByteArray) (w : World) (hs : s.size ≤ 1000000) :
    Calls Tryz.prog 124 #[.string s] w fun e w' => e = .returned (.tuple #[.string (cleanV s), .int .i64 (cleanE s)]) ∧ Below w.heap.size w w' := by
  go_enter Tryz.func124, Tryz.ntmps124
  go_wp2_with fail
  refine (parse_s s _ hs).mono ?_
  rintro e w1 ⟨v, rfl, hown, hb⟩
  by_cases hE : parseE s = 0
  · obtain ⟨ao, cap, rfl, hat⟩ := pairs_own hown rfl
    have HV := Lib.hid (show cleanV s = fmtV (parseV s) ∧ cleanE s = fmtE (parseV s) by unfold cleanV cleanE; rw [if_pos hE, if_pos hE]; exact ⟨rfl, rfl⟩)
    rw [hE]
    clear hE
    go_wp2_with fail
    refine (format_s ao _ cap (parseV s) _ hat (small_parse s)).mono ?_
    rintro e w2 ⟨rfl, hb2⟩
    go_wp2
    go_ret2
    exact ⟨by rw [HV.out.1, HV.out.2]; rfl, hb.trans (hb2.mono hb.size)⟩
  · have HV := Lib.hid (show cleanV s = ByteArray.empty ∧ cleanE s = parseE s by unfold cleanV cleanE; rw [if_neg hE, if_neg hE]; exact ⟨rfl, rfl⟩)
    have q0 : (parseE s != 0) = true := by simpa using hE
    clear hE
    generalize parseE s = k at q0 HV ⊢
    go_wp2
    go_ret2
    exact ⟨by rw [HV.out.1, HV.out.2]; rfl, hb⟩
set_option maxRecDepth 100000 in
set_option maxHeartbeats 2000000 in
theorem rclean0_s (s : ByteArray) (w : World) (hs : s.size ≤ 1000000) :
    Calls Tryz.prog 93 #[.string s] w fun e w' => e = .returned (.tuple #[.string (cleanV s), .int .i64 (cleanE s)]) ∧ Below w.heap.size w w' := by
  go_enter Tryz.func93, Tryz.ntmps93
  go_wp2_with fail
  refine (rparse_s s _ hs).mono ?_
  rintro e w1 ⟨v, rfl, hown, hb⟩
  by_cases hE : parseE s = 0
  · obtain ⟨ao, cap, rfl, hat⟩ := pairs_own hown rfl
    have HV := Lib.hid (show cleanV s = fmtV (parseV s) ∧ cleanE s = fmtE (parseV s) by unfold cleanV cleanE; rw [if_pos hE, if_pos hE]; exact ⟨rfl, rfl⟩)
    rw [hE]
    clear hE
    go_wp2_with fail
    refine (rformat_s ao _ cap (parseV s) _ hat (small_parse s)).mono ?_
    rintro e w2 ⟨rfl, hb2⟩
    go_wp2
    go_ret2
    exact ⟨by rw [HV.out.1, HV.out.2]; rfl, hb.trans (hb2.mono hb.size)⟩
  · have HV := Lib.hid (show cleanV s = ByteArray.empty ∧ cleanE s = parseE s by unfold cleanV cleanE; rw [if_neg hE, if_neg hE]; exact ⟨rfl, rfl⟩)
    have q0 : (parseE s != 0) = true := by simpa using hE
    clear hE
    generalize parseE s = k at q0 HV ⊢
    go_wp2
    go_ret2
    exact ⟨by rw [HV.out.1, HV.out.2]; rfl, hb⟩

set_option maxRecDepth 100000 in
set_option maxHeartbeats 2000000 in
theorem rvalid_s (s : ByteArray) (w : World) (hs : s.size ≤ 1000000) :
    Calls Tryz.prog 136 #[.string s] w fun e w' => e = .returned (.bool (normB s)) ∧ Below w.heap.size w w' := by
  have HN := Lib.hid (norm_clean s)
  go_enter Tryz.func136, Tryz.ntmps136
  go_wp2_with fail
  refine (rclean0_s s _ hs).mono ?_
  rintro e w1 ⟨rfl, hb⟩
  by_cases hE : cleanE s = 0
  · have q1 := str_eq (cleanV s) s
    have q0 : (cleanE s == 0) = true := by simpa using hE
    cases c : decide (cleanV s = s)
    · rw [c] at q1 HN
      have HF := Lib.hid (show normB s = false by rw [HN.out]; simp)
      clear hE
      go_wp2
      go_ret
      exact ⟨by rw [HF.out]; rfl, hb⟩
    · rw [c] at q1 HN
      have HF := Lib.hid (show normB s = true by rw [HN.out, hE]; rfl)
      clear hE
      go_wp2
      go_ret
      exact ⟨by rw [HF.out]; rfl, hb⟩
  · have q0 : (cleanE s == 0) = false := by simpa using hE
    have HF := Lib.hid (show normB s = false by rw [HN.out, decide_eq_false hE]; rfl)
    clear hE
    go_wp2
    go_ret
    exact ⟨by rw [HF.out]; rfl, hb⟩
set_option maxRecDepth 100000 in
set_option maxHeartbeats 2000000 in
theorem rparts_s (s : ByteArray) (w : World) (hs : s.size ≤ 1000000) :
    Calls Tryz.prog 98 #[.string s] w (CompsPost s w) := by
  go_enter Tryz.func98, Tryz.ntmps98
  go_wp2_with fail
  refine (rvalid_s s _ hs).mono ?_
  rintro e w1 ⟨rfl, hb⟩
  cases c : normB s
  · have HN := Lib.hid c
    clear c
    go_wp2
    go_ret2
    exact ⟨_, by rw [HN.out]; rfl, by rw [comps_none HN.out]; exact World.ownsRow_nil _ _ _ _, hb⟩
  · have HN := Lib.hid c
    have HV := Lib.hid (show compsV s = parseV s by unfold compsV; rw [c]; rfl)
    clear c
    go_wp2_with fail
    refine (rparse_s s _ hs).mono ?_
    rintro e w2 ⟨v, rfl, hown, hb2⟩
    generalize parseE s = k
    go_wp2
    go_ret2
    exact ⟨_, by rw [HN.out]; rfl, by rw [HV.out]; exact own_base hown hb.size, hb.trans (hb2.mono hb.size)⟩

end Nam
end Go.Proofs.YtclfjdnemafmeaaGreatDoor
end

section
/-
  Contracts of Parent in the program and in the specification. Condition: at most 1000000 bytes.
-/
set_option maxRecDepth 100000
set_option linter.unusedVariables false
set_option linter.unusedSimpArgs false
set_option linter.unnecessarySimpa false
namespace Go.Proofs.YtclfjdnemafmeaaGreatDoor
namespace Nam
open Go.RowKit Go.PlainAid

theorem small_drop {l : List Pr} (h : Small l) (k : Nat) : Small (l.drop k) := small_of _ (by have := h.1; rw [List.length_drop]; omega) fun p hp => h.mem p (List.mem_of_mem_drop hp)
theorem small_take {l : List Pr} (h : Small l) (k : Nat) : Small (l.take k) := small_of _ (by have := h.1; rw [List.length_take]; omega) fun p hp => h.mem p (List.mem_of_mem_take hp)
theorem parent_none {s : ByteArray} (h : compsV s = []) : parentB s = false ∧ parentV s = ByteArray.empty := by unfold parentB parentV; rw [h]; exact ⟨rfl, rfl⟩
theorem parent_some {s : ByteArray} (h : 0 < (compsV s).length) : parentB s = true ∧ parentV s = fmtV ((compsV s).drop 1) ∧ fmtE ((compsV s).drop 1) = 0 ∧ normB s = true := by
  have h1 : (compsV s).isEmpty = false := by cases e : compsV s with | nil => rw [e] at h; simp at h | cons a l => rfl
  have h2 : parentB s = true := by unfold parentB; rw [h1]; rfl
  have hn := (parent_norm h2).1
  exact ⟨h2, by unfold parentV; rw [h1]; rfl, ((comps_norm hn).1.drop 1).fmt, hn⟩

end Nam
end Go.Proofs.YtclfjdnemafmeaaGreatDoor
end

section
/-
  The contract of name.shared: how many components two lists have in common at their ends. Condition: at most 1000 components.
-/
set_option maxRecDepth 100000
set_option linter.unusedVariables false
set_option linter.unusedSimpArgs false
set_option linter.unnecessarySimpa false
namespace Go.Proofs.YtclfjdnemafmeaaGreatDoor
namespace Nam
open Go.RowKit Go.PlainAid

def sameB (l m : List Pr) (n : Nat) : Bool := decide (n < l.length) && decide (n < m.length) && decide (prAt l (l.length - 1 - n) = prAt m (m.length - 1 - n))
/-- k is the number of common components -/
def ComP (l m : List Pr) (k : Nat) : Prop := (∀ j, j < k → sameB l m j = true) ∧ sameB l m k = false
theorem sameB_iff (l m : List Pr) (n : Nat) : sameB l m n = true ↔ n < l.length ∧ n < m.length ∧ prAt l (l.length - 1 - n) = prAt m (m.length - 1 - n) := by
  unfold sameB; simp [and_assoc]
theorem prAt_app (x m : List Pr) (j : Nat) : prAt (x ++ m) (x.length + j) = prAt m j := by
  unfold prAt; rw [List.getD_eq_getElem?_getD, List.getD_eq_getElem?_getD, List.getElem?_append_right (by omega)]; congr 2; omega
theorem ComP.le {l m : List Pr} {k : Nat} (h : ComP l m k) : k ≤ l.length ∧ k ≤ m.length := by
  rcases Nat.eq_zero_or_pos k with h0 | h0
  · omega
  · have := (sameB_iff _ _ _).1 (h.1 (k - 1) (by omega)); omega
theorem ComP.suf {l m : List Pr} {k : Nat} (h : ComP l m k) : sufB m l = decide (k = m.length) := by
  have hle := h.le
  rw [Bool.eq_iff_iff, sufB_iff, decide_eq_true_eq]
  constructor
  · rintro ⟨x, rfl⟩
    rcases Nat.lt_or_ge k m.length with hlt | hge
    · have h2 : sameB (x ++ m) m k = true := by
        rw [sameB_iff, List.length_append]
        refine ⟨by omega, hlt, ?_⟩
        rw [show x.length + m.length - 1 - k = x.length + (m.length - 1 - k) by omega, prAt_app]
      rw [h.2] at h2; cases h2
    · omega
  · intro e
    subst e
    refine ⟨l.take (l.length - m.length), ?_⟩
    conv => lhs; rw [← List.take_append_drop (l.length - m.length) l]
    congr 1
    refine pairs_ext (by rw [List.length_drop]; omega) fun j hj => ?_
    rw [List.length_drop] at hj
    have := ((sameB_iff _ _ _).1 (h.1 (m.length - 1 - j) (by omega))).2.2
    rw [show m.length - 1 - (m.length - 1 - j) = j by omega, show l.length - 1 - (m.length - 1 - j) = l.length - m.length + j by omega] at this
    rw [← this]
    unfold prAt; rw [List.getD_eq_getElem?_getD, List.getD_eq_getElem?_getD, List.getElem?_drop]

end Nam
end Go.Proofs.YtclfjdnemafmeaaGreatDoor
end

section
/-
  Contracts of name.shared and of Under in the program and in the specification. Condition: at most 1000000 bytes.
-/
set_option maxRecDepth 100000
set_option linter.unusedVariables false
set_option linter.unusedSimpArgs false
set_option linter.unnecessarySimpa false
namespace Go.Proofs.YtclfjdnemafmeaaGreatDoor
namespace Nam
open Go.RowKit Go.PlainAid

def wBoxes (w : World) (u v : Value) : World := (w.alloc (.cells #[u] 127)).alloc (.cells #[v] 127)
theorem boxes_cells (w : World) (u v : Value) : (wBoxes w u v).cell? ⟨w.heap.size, 0, none⟩ = some u ∧ (wBoxes w u v).cell? ⟨w.heap.size + 1, 0, none⟩ = some v := by
  have h1 : (w.alloc (.cells #[u] 127)).heap[w.heap.size]? = some (.cells #[u] 127) := heap_alloc_new w _
  have h2 : (wBoxes w u v).heap[(w.alloc (.cells #[u] 127)).heap.size]? = some (.cells #[v] 127) := heap_alloc_new _ _
  have h3 : (wBoxes w u v).heap[w.heap.size]? = some (.cells #[u] 127) := by
    unfold wBoxes
    rw [Lib.alloc_old _ _ _ (by simp)]; exact h1
  rw [World.size_alloc] at h2
  exact ⟨by rw [Lib.cell_of_heap h3]; rfl, by rw [Lib.cell_of_heap h2]; rfl⟩
theorem boxes_below (w : World) (u v : Value) : Below w.heap.size w (wBoxes w u v) := ((Below.refl _ _).alloc (Nat.le_refl _) _).alloc (by simp) _
theorem boxes_size (w : World) (u v : Value) : (wBoxes w u v).heap.size = w.heap.size + 2 := by unfold wBoxes; rw [World.size_alloc, World.size_alloc]

end Nam
end Go.Proofs.YtclfjdnemafmeaaGreatDoor
end

section
/-
  Contracts of Under in the program and in the specification. Condition: at most 1000000 bytes.
-/
set_option maxRecDepth 100000
set_option linter.unusedVariables false
set_option linter.unusedSimpArgs false
set_option linter.unnecessarySimpa false
namespace Go.Proofs.YtclfjdnemafmeaaGreatDoor
namespace Nam
open Go.RowKit Go.PlainAid

theorem own_some {w : World} {base n cap size : Nat} {e : TypeId} {ao : Option Addr} {xs : List Value} (h : w.ownsRow base e size (.slice ao n cap) n xs) (hc : 0 < cap) : ∃ g, ao = some ⟨g, 0, none⟩ := by
  rcases h.2 with ⟨h1, _⟩ | ⟨g, c2, cur, h1, _⟩
  · cases h1; omega
  · cases h1; exact ⟨g, rfl⟩

end Nam
end Go.Proofs.YtclfjdnemafmeaaGreatDoor
end

section
/-
  Appending pairs, copying pairs, and the contract of slices.Insert at one pair at the beginning of a row of the caller's own. Condition: at most 100 pairs.
-/
set_option maxRecDepth 100000
set_option linter.unusedVariables false
set_option linter.unusedSimpArgs false
set_option linter.unnecessarySimpa false
namespace Go.Proofs.YtclfjdnemafmeaaGreatDoor
namespace Nam
open Go.RowKit Go.PlainAid

theorem pcells_len : ∀ l : List Pr, (pcells l).length = l.length * 2
  | [] => rfl
  | p :: l => by
    have h := pcells_len l
    have e : pcells (p :: l) = .string p.1 :: .string p.2 :: pcells l := rfl
    rw [e, List.length_cons, List.length_cons, h, List.length_cons]; omega
theorem pcells_one (l : List Pr) : ∀ u ∈ pcells l, u.oneCell' = true := by
  intro u hu
  obtain ⟨p, _, hp⟩ := List.mem_flatMap.1 hu
  simp at hp
  rcases hp with rfl | rfl <;> rfl
theorem pairs_cells {w : World} {b off : Nat} {ps : List Pr} (h : IsPairs w b off ps) : ∀ j u, (pcells ps)[j]? = some u → w.cell? ((⟨b, off, none⟩ : Addr).add j) = some u := by
  intro j u hj
  rw [WideShapes.add_plain]
  have hl : j < (pcells ps).length := by
    rcases Nat.lt_or_ge j (pcells ps).length with k | k
    · exact k
    · rw [List.getElem?_eq_none k] at hj; cases hj
  rw [pcells_len] at hl
  have hk := pcells_at ps (j / 2) (by omega)
  have hc := h.2 (j / 2) (by omega)
  rcases Nat.mod_two_eq_zero_or_one j with e | e
  · have e2 : j / 2 * 2 = j := by omega
    rw [e2] at hk hc
    rw [hk.1] at hj
    rw [hc.1]; exact hj
  · have e2 : j / 2 * 2 + 1 = j := by omega
    rw [e2] at hk
    rw [show off + j / 2 * 2 + 1 = off + j by omega] at hc
    rw [hk.2] at hj
    rw [hc.2]; exact hj
theorem cells_pairs {w : World} {b off : Nat} {ps : List Pr} (hb : b < w.heap.size) (h : ∀ j u, (pcells ps)[j]? = some u → w.cell? ⟨b, off + j, none⟩ = some u) : IsPairs w b off ps := by
  refine ⟨hb, fun j hj => ?_⟩
  have hk := pcells_at ps j hj
  exact ⟨h _ _ hk.1, by rw [Nat.add_assoc]; exact h _ _ hk.2⟩
/-- 'l = append(l, ps...)' where l is the call's own -/
theorem app_pairs {ops : Array Oper} {rest : List Oper} {o : Oper} {a : Act} {Q : Exit → Act → World → Prop} (wr : World) {base : Nat} {v : Value} {n : Nat} {xs : List Value} (hown : wr.ownsRow base 131 2 v n xs) (s x : Operand)
    (ao : Option Addr) (m c : Nat) (news : List Pr) (hgd : o.guard = none)
    (ho : o.op = .call { callee := .builtin .append, args := #[s, x], argTypes := #[127, 127] })
    (hs : a.eval s = v) (hx : a.eval x = .slice ao m c) (hw : PairsAt wr ao m c news) (h0 : ao = none → c = 0) (hn : n + m ≤ 1000000000) (hbase : base ≤ wr.heap.size)
    (h : ∀ v' w', w'.ownsRow base 131 2 v' (n + m) (xs ++ pcells news) → Below base wr w' → wpList Tryz.prog ops Q rest (a.put o.dst v') w') :
    wpList Tryz.prog ops Q (o :: rest) a wr := by
  obtain ⟨i0, hi, hz0, hz1, hz2⟩ := info_parts info_pair
  obtain ⟨w1, w2, w3, w4⟩ := hw
  cases ao with
  | none =>
    have hc := h0 rfl
    subst hc
    have hm : m = 0 := by omega
    subst hm
    have hnil : news = [] := List.length_eq_zero_iff.1 w1
    subst hnil
    refine wpList_append_own_none hgd s x 127 ho base 131 i0 2 Tryz.underlying127 hi v n xs hs hown hx ?_
    have := h v wr (by rw [show pcells [] = [] from rfl, List.append_nil]; exact hown) (Below.refl _ _)
    exact this
  | some ad =>
    have hnews : ∀ j u, (pcells news)[j]? = some u → wr.cell? (ad.add j) = some u := by
      rcases Nat.eq_zero_or_pos m with e | e
      · have hnil : news = [] := List.length_eq_zero_iff.1 (by omega)
        subst hnil
        intro j u hj; simp [pcells] at hj
      · obtain ⟨b, off, e2, hi2⟩ := w4 e
        cases e2
        exact pairs_cells hi2
    refine wpList_append_own _ hgd s x 127 ho base 131 i0 (.agg #[.string ⟨#[]⟩, .string ⟨#[]⟩]) 2 32 Tryz.underlying127 hi hz0 hz1 hz2 rfl (by decide) v n xs hs hown ad m c (pcells news) hx (by rw [pcells_len, w1]) hnews
      (pcells_one _) (by unfold maxLen; omega) (by omega) hbase ?_
    intro v' w' h1 h2 _
    exact h v' w' h1 ((Below.refl base wr).grown h2 hbase (fun k hk => (hown.lt k hk).1))
theorem pcells_length {l : List Pr} {n : Nat} (h : l.length = n) : (pcells l).length = n * 2 := by rw [pcells_len, h]
/-- a row that was just laid -/
theorem own_new1 (w : World) (p : Pr) : (w.alloc (.cells #[.string p.1, .string p.2] 131)).ownsRow w.heap.size 131 2 (.slice (some ⟨w.heap.size, 0, none⟩) 1 1) 1 (pcells [p]) :=
  ⟨rfl, .inr ⟨w.heap.size, 1, #[.string p.1, .string p.2], rfl, Nat.le_refl _, heap_alloc_new w _, Nat.le_refl _, by unfold maxLen; omega, rfl, rfl⟩⟩
/-- 'append(l, ps...)' where l has no room -/
theorem app_onto {ops : Array Oper} {rest : List Oper} {o : Oper} {a : Act} {Q : Exit → Act → World → Prop} (wr : World) (s x : Operand) (ao bo : Option Addr) (n m c : Nat) (olds news : List Pr) (hgd : o.guard = none)
    (ho : o.op = .call { callee := .builtin .append, args := #[s, x], argTypes := #[127, 127] })
    (hs : a.eval s = .slice ao n n) (hx : a.eval x = .slice bo m c) (hold : PairsAt wr ao n n olds) (hnone : ao = none → n = 0) (hplain : ∀ ad, ao = some ad → ad.spot = none) (hw : PairsAt wr bo m c news) (h0 : bo = none → c = 0) (hn : n + m ≤ 1000000)
    (h : ∀ xo cap w', PairsAt w' xo (n + m) cap (olds ++ news) → Below wr.heap.size wr w' → wpList Tryz.prog ops Q rest (a.put o.dst (.slice xo (n + m) cap)) w') :
    wpList Tryz.prog ops Q (o :: rest) a wr := by
  obtain ⟨i0, hi, hz0, hz1, hz2⟩ := info_parts info_pair
  cases ao with
  | none =>
    have e0 := hnone rfl
    subst e0
    have e1 : olds = [] := List.length_eq_zero_iff.1 hold.1
    subst e1
    refine app_pairs wr (World.ownsRow_nil wr wr.heap.size 131 2) s x bo m c news hgd ho hs hx hw h0 (by omega) (Nat.le_refl _) ?_
    intro v' w' h1 h2
    obtain ⟨xo, cap, rfl, hat⟩ := pairs_own (l := news) (by rw [List.nil_append] at h1; exact h1) (by rw [hw.1]; omega)
    exact h xo cap w' (by rw [List.nil_append]; exact hat) h2
  | some ad =>
    have hsp := hplain ad rfl
    obtain ⟨b, off, spot⟩ := ad
    simp only at hsp
    subst hsp
    rcases Nat.eq_zero_or_pos m with e | e
    · subst e
      have e1 : news = [] := List.length_eq_zero_iff.1 hw.1
      subst e1
      have hsrc : Src Tryz.prog i0.size 127 (.slice bo 0 c) 0 [] wr := by
        cases bo with
        | none => exact Src.ofNil wr Tryz.underlying127 c
        | some a2 => exact Src.ofSlice wr Tryz.underlying127 a2 0 c [] (by simp) (fun j u hj => by simp at hj) (fun u hu => by cases hu)
      refine wpList_plain hgd fun K hK => ?_
      have hrun := run_append_room_src (P := Tryz.prog) (w := wr) 127 127 o.type 131 i0 Tryz.underlying127 hi b off n n (.slice bo 0 c) 0 [] hsrc (by omega) (fun j hj => by simp at hj) (fun j hj => by simp at hj)
      unfold Oper.wp
      simp [execOp, ho, resolve, invoke, builtin, hs, hx, hrun, Result.andThen]
      refine hK _ _ (h (some ⟨b, off, none⟩) n wr (by rw [List.append_nil]; exact hold) (Below.refl _ _))
    · obtain ⟨b2, off2, e2, hi2⟩ := hw.2.2.2 e
      subst e2
      refine wpList_append_grows wr hgd s x 127 ho 131 i0 (.agg #[.string ⟨#[]⟩, .string ⟨#[]⟩]) 2 32 Tryz.underlying127 hi hz0 hz1 hz2 rfl (by decide) (some ⟨b, off, none⟩) n n (pcells olds) hs (fun e => by cases e) (pcells_length hold.1)
        (fun ad had j u hj => ?_) ⟨b2, off2, none⟩ m c (pcells news) hx (pcells_length hw.1) (pairs_cells hi2) (pcells_one _) (by omega) (by unfold maxLen; omega) (by omega) ?_
      · cases had
        rcases Nat.eq_zero_or_pos n with e0 | e0
        · have e1 : olds = [] := List.length_eq_zero_iff.1 (by rw [hold.1]; exact e0)
          subst e1; simp [pcells] at hj
        · obtain ⟨b3, off3, e3, hi3⟩ := hold.2.2.2 e0
          cases e3
          exact pairs_cells hi3 j u hj
      · intro v' w' h1 h2
        obtain ⟨xo, cap, rfl, hat⟩ := pairs_own (l := olds ++ news) (by rw [pcells_append]; exact h1) (by rw [List.length_append, hold.1, hw.1])
        exact h xo cap w' hat ((Below.refl _ wr).grown h2 (Nat.le_refl _) (fun k hk => by cases hk))

/-! ### copying -/
theorem run_copy_two (w : World) (dT sT ty elem : TypeId) (b o dLen dCap : Nat) (a : Addr) (sLen sCap m : Nat) (cs : List Value) (hu : Tryz.prog.underlying dT = some (.slice elem)) (hs : (Tryz.prog.info? elem).map (·.size) = some 2) (hm : Nat.min sLen dLen = m) (hn : cs.length = m * 2)
    (hsrc : ∀ j v, cs[j]? = some v → w.cell? (a.add j) = some v) (hc : ∀ j, j < cs.length → (w.cell? ⟨b, o + j, none⟩).isSome = true) (hf : ∀ j, j < cs.length → w.frozen? ⟨b, o + j, none⟩ = false) (h1 : ∀ v ∈ cs, v.oneCell' = true) :
    (Builtin.copy_ #[dT, sT] ty #[.slice (some ⟨b, o, none⟩) dLen dCap, .slice (some a) sLen sCap]).run Tryz.prog w = .ok (goInt m) (w.setCells b o cs) := by
  have hl := run_loadCells_list (P := Tryz.prog) w a cs hsrc
  rw [hn] at hl
  have hst := run_storeCells_cells (P := Tryz.prog) b o cs 0 w (by simpa using hc) (by simpa using hf) h1
  rw [Nat.add_zero] at hst
  cases hq : Tryz.prog.info? elem with
  | none => simp [hq] at hs
  | some i =>
    have hi : i.size = 2 := by simpa [hq] using hs
    have hm2 : min sLen dLen = m := hm
    simp [Builtin.copy_, run_underlying hu, Builtin.lenOf, Builtin.firstCells, sizeOf, typeInfo, hq, hi, hm, hm2, hl, hst]

end Nam
end Go.Proofs.YtclfjdnemafmeaaGreatDoor
end
