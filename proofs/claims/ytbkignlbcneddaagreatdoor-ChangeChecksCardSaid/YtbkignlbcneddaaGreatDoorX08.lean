/-
  Texts of the schema layer and of those beneath it, joined: NamF, NamG, NamSame, NamH, CodecP, CodecUn, CodecSplit. Conditions stand at each contract.
-/
import Derived.Deep.RegionHeld3
import Derived.Test.YtbkignlbcneddaaGreatDoorX02
import Derived.Test.YtbkignlbcneddaaGreatDoorX05
import Derived.Test.YtbkignlbcneddaaGreatDoorX06
import Derived.Test.YtbkignlbcneddaaGreatDoorX07
set_option linter.unusedVariables false
set_option linter.unusedSimpArgs false
set_option linter.unnecessarySimpa false

section
/-
  Contracts of name.Format and of the specification's Format. Condition: at most 1000 pairs of strings of at most 1100000 bytes.
-/
set_option maxRecDepth 100000
namespace Go.Proofs.YtbkignlbcneddaaGreatDoor
namespace Nam
open Go.RowKit Go.PlainAid
def fmtK (l : List Pr) (k : Nat) : List UInt8 := barC ((l.take k).map fmtC)
theorem fmtK_first (l : List Pr) (h : 0 < l.length) : fmtK l (0 + 1) = fmtK l 0 ++ (lowS (prAt l 0).1).data.toList ++ [61] ++ (escS (foldS (prAt l 0).2)).data.toList := by
  unfold fmtK
  rw [pr_take l 0 h, List.take_zero, List.nil_append, List.map_cons, List.map_nil]
  show fmtC (prAt l 0) = _
  unfold fmtC escS; simp [barC, ofB_data]
theorem fmtK_next (l : List Pr) (k : Nat) (h : k < l.length) (h0 : 0 < k) : fmtK l (k + 1) = fmtK l k ++ [44] ++ (lowS (prAt l k).1).data.toList ++ [61] ++ (escS (foldS (prAt l k).2)).data.toList := by
  unfold fmtK
  rw [pr_take l k h, List.map_append, List.map_cons, List.map_nil, barC_snoc _ _ (by
    intro e; have := congrArg List.length e; rw [List.length_map, List.length_take, List.length_nil] at this; omega)]
  unfold fmtC escS; simp [ofB_data]
theorem barC_len (m : Nat) : ∀ l : List (List UInt8), (∀ p ∈ l, p.length ≤ m) → (barC l).length ≤ l.length * (m + 1)
  | [], _ => by simp [barC]
  | [p], h => by have := h p (by simp); simp [barC]; omega
  | p :: q :: r, h => by
    have h1 := h p (by simp)
    have ih := barC_len m (q :: r) (fun x hx => h x (by simp at hx ⊢; exact .inr hx))
    rw [show barC (p :: q :: r) = p ++ 44 :: barC (q :: r) from rfl, List.length_append, List.length_cons, List.length_cons, Nat.add_mul]
    omega
theorem fmtC_len (p : Pr) : (fmtC p).length ≤ p.1.size + 1 + 2 * p.2.size := by
  unfold fmtC
  have h1 := escV_len (foldS p.2).data.toList
  rw [← Lib.size_eq] at h1
  have h2 := foldS_size p.2
  have h3 : (lowS p.1).data.toList.length = p.1.size := by rw [← Lib.size_eq, lowS_size]
  rw [List.length_append, List.length_cons, h3]; omega
/-- no pair is too large -/
def Small (l : List Pr) : Prop := l.length ≤ 1000 ∧ ∀ j, j < l.length → (prAt l j).1.size ≤ 1100000 ∧ (prAt l j).2.size ≤ 1100000
theorem prAt_mem (l : List Pr) {p : Pr} (h : p ∈ l) : ∃ j, j < l.length ∧ prAt l j = p := by
  obtain ⟨j, hj, rfl⟩ := List.getElem_of_mem h
  exact ⟨j, hj, by unfold prAt; rw [List.getD_eq_getElem?_getD, List.getElem?_eq_getElem hj]; rfl⟩
theorem mem_prAt (l : List Pr) {j : Nat} (h : j < l.length) : prAt l j ∈ l := by
  unfold prAt; rw [List.getD_eq_getElem?_getD, List.getElem?_eq_getElem h]; exact List.getElem_mem h
theorem small_of (l : List Pr) (h1 : l.length ≤ 1000) (h : ∀ p ∈ l, p.1.size ≤ 1100000 ∧ p.2.size ≤ 1100000) : Small l := ⟨h1, fun j hj => h _ (mem_prAt l hj)⟩
theorem Small.mem {l : List Pr} (h : Small l) : ∀ p ∈ l, p.1.size ≤ 1100000 ∧ p.2.size ≤ 1100000 := fun p hp => by
  obtain ⟨j, hj, rfl⟩ := prAt_mem l hp
  exact h.2 j hj
theorem fmtK_len {l : List Pr} (h : Small l) (k : Nat) : (fmtK l k).length ≤ 4000000000 := by
  have h1 := barC_len 3300001 ((l.take k).map fmtC) (fun p hq => by
    obtain ⟨q, hq1, rfl⟩ := List.mem_map.1 hq
    have h2 := h.mem q (List.mem_of_mem_take hq1)
    have h3 := fmtC_len q
    omega)
  have h2 : ((l.take k).map fmtC).length ≤ 1000 := by have := h.1; simp; omega
  unfold fmtK
  have := Nat.mul_le_mul_right (3300001 + 1) h2
  omega
theorem fmtFirst_step {l : List Pr} {k : Nat} (h : fmtFirst (l.take k) = 0) (hk : k < l.length) : (prE (prAt l k) = 0 → fmtFirst (l.take (k + 1)) = 0) ∧ (prE (prAt l k) ≠ 0 → fmtE l = prE (prAt l k) ∧ fmtV l = ByteArray.empty) := by
  have hall := fmtFirst_all h
  have happ : ∀ (a b : List Pr), fmtFirst a = 0 → fmtFirst (a ++ b) = fmtFirst b := fun a b ha => by
    induction a with
    | nil => rfl
    | cons p r ih =>
      unfold fmtFirst at ha
      by_cases hp : prE p = 0
      · rw [if_pos hp] at ha
        show (if prE p = 0 then fmtFirst (r ++ b) else prE p) = _
        rw [if_pos hp, ih ha]
      · rw [if_neg hp] at ha; exact absurd ha hp
  refine ⟨fun e => ?_, fun e => ?_⟩
  · rw [pr_take l k hk, happ _ _ h]; unfold fmtFirst; rw [if_pos e]; rfl
  · have h2 : l = l.take k ++ prAt l k :: l.drop (k + 1) := by
      have := pr_take l k hk
      conv => lhs; rw [← List.take_append_drop (k + 1) l, this]
      simp
    have h3 : fmtFirst l = prE (prAt l k) := by
      rw [h2, happ _ _ h]; unfold fmtFirst
      rw [← h2, if_neg e]
    have h4 : fmtE l = prE (prAt l k) := by unfold fmtE; rw [h3, if_neg e]
    exact ⟨h4, by unfold fmtV; rw [h4, if_neg e]⟩
theorem fmt_end {l : List Pr} (h : fmtFirst (l.take l.length) = 0) : (8 < l.length → fmtE l = 3 ∧ fmtV l = ByteArray.empty) ∧ (¬ 8 < l.length → fmtE l = 0 ∧ fmtV l = ofB (fmtK l l.length)) := by
  rw [List.take_length] at h
  refine ⟨fun hl => ?_, fun hl => ?_⟩
  · have h4 : fmtE l = 3 := by unfold fmtE; rw [if_pos h, if_pos hl]
    exact ⟨h4, by unfold fmtV; rw [h4]; rfl⟩
  · have h4 : fmtE l = 0 := by unfold fmtE; rw [if_pos h, if_neg hl]
    exact ⟨h4, by unfold fmtV fmtK; rw [if_pos h4, List.take_length]⟩
theorem B7lt {B b : Nat} {l : List UInt8} {w : World} (h : Bld B b l w) : b < w.heap.size := by
  rcases h with h | h <;> exact h.lt
set_option maxRecDepth 100000 in
set_option maxHeartbeats 8000000 in
theorem format_s (ao : Option Addr) (n cap : Nat) (l : List Pr) (w : World) (h : PairsAt w ao n cap l) (hsm : Small l) :
    Calls Tryz.prog 137 #[.slice ao n cap] w fun e w' => e = .returned (.tuple #[.string (fmtV l), .int .i64 (fmtE l)]) ∧ Below w.heap.size w w' := by
  obtain ⟨h1, h2, h3, h4⟩ := h
  subst h1
  have HS := Lib.hid hsm
  have hl0 := hsm.1
  clear hsm
  have HN := Lib.hid (bld_new w)
  have H4 := Lib.hid h4; clear h4
  go_enter Tryz.func137, Tryz.ntmps137
  go_wp2
  go_loopw [10] (fun i wr => ∃ k : Nat, k ≤ l.length ∧ i = .int .i64 k ∧ Bld w.heap.size w.heap.size (fmtK l k) wr ∧ Below w.heap.size w wr ∧ w.heap.size < wr.heap.size ∧ Hid (fmtFirst (l.take k) = 0))
    (fun i _ => l.length - (intOf i).toNat)
  case atStart => exact ⟨0, Nat.zero_le _, rfl, HN.out, (Below.refl _ _).alloc (Nat.le_refl _) _, by simp, Lib.hid rfl⟩
  case round =>
    obtain ⟨k, hk, rfl, HBd, hbel, hsz, HF⟩ := hrel
    have hln := fmtK_len HS.out k
    by_cases hlt : k < l.length
    · obtain ⟨b, off, rfl, hs⟩ := H4.out (by omega)
      obtain ⟨hc1, hc2⟩ := (hs.below hbel hs.1).2 k hlt
      obtain ⟨hpk, hpv⟩ := HS.out.2 k hlt
      have HST := Lib.hid (fmtFirst_step HF.out hlt)
      have HK1 := Lib.hid (fun (_ : k = 0) => fmtK_first l (by omega))
      have HK2 := Lib.hid (fun (h0 : 0 < k) => fmtK_next l k hlt h0)
      obtain ⟨⟨p, q⟩, hpe⟩ : ∃ p, p = prAt l k := ⟨_, rfl⟩
      have HPE := Lib.hid hpe
      rw [← hpe] at hc1 hc2 hpk hpv HST HK2
      simp only [] at hc1 hc2 hpk hpv
      clear hs hpe
      have hfz := foldS_size q
      have hlz := lowS_size p
      have hez := escS_size (foldS q)
      go_wp2_with fail
      refine (check_s (p, q) _ (by simp only []; omega) (by simp only []; omega)).mono ?_
      rintro e w1 ⟨rfl, hb1⟩
      have hbx := (pbox_new wr (p, q)).below hb1
      have hbl := (below_new (w := wr) (.cells #[.string p, .string q] 143))
      have hb01 := below_next hbl hb1
      have L1 := hbel.trans (hb01.mono hbel.size)
      have B1 := HBd.below hb01
      by_cases hE : prE (p, q) = 0
      · have HFN := Lib.hid (HST.out.1 hE)
        rw [hE]
        clear hE HST hc1 hc2
        obtain ⟨d0, d1⟩ := hbx.cells
        simp only [] at d0 d1
        by_cases hk0 : k = 0
        · have HK := Lib.hid (show fmtK l (k + 1) = fmtK l k ++ (lowS p).data.toList ++ [61] ++ (escS (foldS q)).data.toList by
            have := HK1.out hk0
            subst hk0
            rw [← HPE.out] at this
            exact this)
          have hd0 : decide (0 < k) = false := by simp; omega
          clear hk0 HK1 HK2
          clear d1
          go_wp2_with fail
          refine (lower_s p _ (by omega)).mono ?_
          rintro e w2 ⟨rfl, hb2⟩
          have B2 := B1.below hb2
          have L2 := L1.trans (hb2.mono L1.size)
          have X2 := hbx.below hb2
          clear d0
          go_wp2_with fail
          refine (writeString_t w.heap.size w.heap.size _ _ _ B2 (by (try simp only [List.length_append, List.length_cons, List.length_nil]); omega) L2.size).mono ?_
          rintro e w3 ⟨rfl, B3, hb3, hk3⟩
          have L3 := L2.trans hb3
          have X3 := hk3.box X2
          go_wp2_with fail
          refine (writeByte_t w.heap.size w.heap.size _ 61 61 _ B3 rfl (by simp only [List.length_append, List.length_cons, List.length_nil, ← Lib.size_eq]; omega) L3.size).mono ?_
          rintro e w4 ⟨rfl, B4, hb4, hk4⟩
          have L4 := L3.trans hb4
          have X4 := hk4.box X3
          obtain ⟨d0, d1⟩ := X4.cells
          simp only [] at d0 d1
          clear d0
          go_wp2_with fail
          refine (fold_s q _ (by omega)).mono ?_
          rintro e w5 ⟨rfl, hb5⟩
          have B5 := B4.below hb5
          have L5 := L4.trans (hb5.mono L4.size)
          clear d1
          go_wp2_with fail
          refine (escaped_s (foldS q) _ (by omega)).mono ?_
          rintro e w6 ⟨rfl, hb6⟩
          have B6 := B5.below hb6
          have L6 := L5.trans (hb6.mono L5.size)
          go_wp2_with fail
          refine (writeString_t w.heap.size w.heap.size _ _ _ B6 (by simp only [List.length_append, List.length_cons, List.length_nil, ← Lib.size_eq]; omega) L6.size).mono ?_
          rintro e w7 ⟨rfl, B7, hb7, hk7⟩
          have L7 := L6.trans hb7
          have hsz7 : w.heap.size < w7.heap.size := B7lt B7
          go_wp2
          go_roundw
          case rel => exact ⟨k + 1, by omega, by go_num, by rw [HK.out]; exact B7, L7, hsz7, HFN⟩
          case measure => simp [intOf]; omega
        · have HK := Lib.hid (HK2.out (by omega))
          have hd0 : decide (0 < k) = true := by simp; omega
          clear hk0 HK1 HK2
          go_wp2_with fail
          refine (writeByte_t w.heap.size w.heap.size _ 44 44 _ B1 rfl (by omega) L1.size).mono ?_
          rintro e w0 ⟨rfl, B0, hb0, hk0⟩
          have L0 := L1.trans hb0
          have X0 := hk0.box hbx
          clear d0 d1
          obtain ⟨d0, d1⟩ := X0.cells
          simp only [] at d0 d1
          clear d1
          go_wp2_with fail
          refine (lower_s p _ (by omega)).mono ?_
          rintro e w2 ⟨rfl, hb2⟩
          have B2 := B0.below hb2
          have L2 := L0.trans (hb2.mono L0.size)
          have X2 := X0.below hb2
          clear d0
          go_wp2_with fail
          refine (writeString_t w.heap.size w.heap.size _ _ _ B2 (by (try simp only [List.length_append, List.length_cons, List.length_nil]); omega) L2.size).mono ?_
          rintro e w3 ⟨rfl, B3, hb3, hk3⟩
          have L3 := L2.trans hb3
          have X3 := hk3.box X2
          go_wp2_with fail
          refine (writeByte_t w.heap.size w.heap.size _ 61 61 _ B3 rfl (by simp only [List.length_append, List.length_cons, List.length_nil, ← Lib.size_eq]; omega) L3.size).mono ?_
          rintro e w4 ⟨rfl, B4, hb4, hk4⟩
          have L4 := L3.trans hb4
          have X4 := hk4.box X3
          obtain ⟨d0, d1⟩ := X4.cells
          simp only [] at d0 d1
          clear d0
          go_wp2_with fail
          refine (fold_s q _ (by omega)).mono ?_
          rintro e w5 ⟨rfl, hb5⟩
          have B5 := B4.below hb5
          have L5 := L4.trans (hb5.mono L4.size)
          clear d1
          go_wp2_with fail
          refine (escaped_s (foldS q) _ (by omega)).mono ?_
          rintro e w6 ⟨rfl, hb6⟩
          have B6 := B5.below hb6
          have L6 := L5.trans (hb6.mono L5.size)
          go_wp2_with fail
          refine (writeString_t w.heap.size w.heap.size _ _ _ B6 (by simp only [List.length_append, List.length_cons, List.length_nil, ← Lib.size_eq]; omega) L6.size).mono ?_
          rintro e w7 ⟨rfl, B7, hb7, hk7⟩
          have L7 := L6.trans hb7
          have hsz7 : w.heap.size < w7.heap.size := B7lt B7
          go_wp2
          go_roundw
          case rel => exact ⟨k + 1, by omega, by go_num, by rw [HK.out]; exact B7, L7, hsz7, HFN⟩
          case measure => simp [intOf]; omega
      · have HFN := Lib.hid (HST.out.2 hE)
        have q0 : (prE (p, q) != 0) = true := by simpa using hE
        clear hE HST hc1 hc2
        generalize prE (p, q) = e0 at q0 HFN ⊢
        go_wp2
        go_ret2
        exact ⟨by rw [HFN.out.1, HFN.out.2]; rfl, L1⟩
    · have HT := Lib.hid (show k = l.length by omega)
      rw [HT.out] at HBd HF
      by_cases h8 : 8 < l.length
      · have HE := Lib.hid ((fmt_end HF.out).1 h8)
        have hd8 : decide ((8 : Int) < (l.length : Int)) = true := decide_eq_true (by omega)
        go_wp2
        go_ret2
        exact ⟨by rw [HE.out.1, HE.out.2]; rfl, hbel⟩
      · have HE := Lib.hid ((fmt_end HF.out).2 h8)
        have hd8 : decide ((8 : Int) < (l.length : Int)) = false := decide_eq_false (by omega)
        go_wp2_with (go_at_call 63; refine (string_s w.heap.size w.heap.size _ _ HBd hbel.size).mono ?_; rintro e w1 ⟨rfl, hb1⟩)
        go_ret2
        exact ⟨by rw [HE.out.1, HE.out.2]; rfl, hbel.trans hb1⟩
end Nam
end Go.Proofs.YtbkignlbcneddaaGreatDoor
end

section
/-
  The contract of the specification's Format. Condition: at most 1000 pairs of strings of at most 1100000 bytes.
-/
set_option maxRecDepth 100000
namespace Go.Proofs.YtbkignlbcneddaaGreatDoor
namespace Nam
open Go.RowKit Go.PlainAid
/-- 'b = append(b, s...)' where b is the call's own -/
theorem push_all {ops : Array Oper} {rest : List Oper} {o : Oper} {a : Act} {Q : Exit → Act → World → Prop} (wr : World) {base : Nat} {v : Value} {n : Nat} {xs : List Value} (hown : wr.ownsRow base 5 1 v n xs) (s x : Operand)
    (t : ByteArray) (hgd : o.guard = none)
    (ho : o.op = .call { callee := .builtin .append, args := #[s, x], argTypes := #[79, 9] })
    (hs : a.eval s = v) (hx : a.eval x = .string t) (hn : n + t.size ≤ 140737488355328) (hbase : base ≤ wr.heap.size)
    (h : ∀ v' w', w'.ownsRow base 5 1 v' (n + t.size) (xs ++ bcells t.data.toList) → Below base wr w' → wpList Tryz.prog ops Q rest (a.put o.dst v') w') :
    wpList Tryz.prog ops Q (o :: rest) a wr := by
  obtain ⟨i0, hi, hz0, hz1, hz2⟩ := info_parts info5
  refine Lib.wpList_append_own_string wr hgd s x 79 9 ho base 5 i0 Tryz.underlying79 Tryz.underlying9 hi hz0 hz1 hz2 v n xs hs hown t hx (by unfold maxLen; omega) (by omega) (by omega) ?_
  intro v' w' h1 h2 _
  refine h v' w' (by rw [← strCells_b]; exact h1) ?_
  exact (Below.refl base wr).grown h2 hbase (fun k hk => (hown.lt k hk).1)
theorem bcells_one' (c : UInt8) : bcells [c] = [.int .u8 (c.toNat : Int)] := rfl
set_option maxRecDepth 100000 in
set_option maxHeartbeats 8000000 in
theorem rformat_s (ao : Option Addr) (n cap : Nat) (l : List Pr) (w : World) (h : PairsAt w ao n cap l) (hsm : Small l) :
    Calls Tryz.prog 142 #[.slice ao n cap] w fun e w' => e = .returned (.tuple #[.string (fmtV l), .int .i64 (fmtE l)]) ∧ Below w.heap.size w w' := by
  obtain ⟨h1, h2, h3, h4⟩ := h
  subst h1
  have HS := Lib.hid hsm
  have hl0 := hsm.1
  clear hsm
  have H4 := Lib.hid h4; clear h4
  go_enter Tryz.func142, Tryz.ntmps142
  go_wp2
  go_loopw [4, 5] (fun bv i wr => ∃ k : Nat, k ≤ l.length ∧ i = .int .i64 k ∧ wr.ownsRow w.heap.size 5 1 bv (fmtK l k).length (bcells (fmtK l k)) ∧ Below w.heap.size w wr ∧ Hid (fmtFirst (l.take k) = 0))
    (fun _ i _ => l.length - (intOf i).toNat)
  case atStart => exact ⟨0, Nat.zero_le _, rfl, World.ownsRow_nil _ _ _ _, Below.refl _ _, Lib.hid rfl⟩
  case round =>
    obtain ⟨k, hk, rfl, hown, hbel, HF⟩ := hrel
    have hln := fmtK_len HS.out k
    by_cases hlt : k < l.length
    · obtain ⟨b, off, rfl, hs⟩ := H4.out (by omega)
      have HC := Lib.hid (show ∀ w', Below w.heap.size w w' → w'.cell? ⟨b, off + k * 2, none⟩ = some (.string (prAt l k).1) ∧ w'.cell? ⟨b, off + k * 2 + 1, none⟩ = some (.string (prAt l k).2) from fun w' hb => (hs.below hb hs.1).2 k hlt)
      obtain ⟨hpk, hpv⟩ := HS.out.2 k hlt
      have HST := Lib.hid (fmtFirst_step HF.out hlt)
      have HK1 := Lib.hid (fun (_ : k = 0) => fmtK_first l (by omega))
      have HK2 := Lib.hid (fun (h0 : 0 < k) => fmtK_next l k hlt h0)
      obtain ⟨⟨p, q⟩, hpe⟩ : ∃ p, p = prAt l k := ⟨_, rfl⟩
      have HPE := Lib.hid hpe
      rw [← hpe] at HC hpk hpv HST HK2
      simp only [] at HC hpk hpv
      clear hs hpe
      have hfz := foldS_size q
      have hlz := lowS_size p
      obtain ⟨hc1, hc2⟩ := HC.out _ hbel
      cases n1 : nameB p
      · have HFN := Lib.hid (show fmtE l = 5 ∧ fmtV l = ByteArray.empty by
          have hp1 : prE (p, q) = 5 := by unfold prE; rw [if_pos n1]
          have := HST.out.2 (by rw [hp1]; decide)
          rw [hp1] at this; exact this)
        clear hc2
        go_wp2_with (go_at_call 58; refine (rName_s p _ (by omega)).mono ?_; rintro e w' ⟨rfl, rfl⟩; rw [n1])
        go_ret2
        exact ⟨by rw [HFN.out.1, HFN.out.2]; rfl, hbel⟩
      · cases n2 : cleanB q
        · have HFN := Lib.hid (show fmtE l = 8 ∧ fmtV l = ByteArray.empty by
            have hp1 : prE (p, q) = 8 := by unfold prE; simp only []; rw [if_neg (by rw [n1]; decide), if_pos n2]
            have := HST.out.2 (by rw [hp1]; decide)
            rw [hp1] at this; exact this)
          go_wp2_with (first
            | (go_at_call 58; refine (rName_s p _ (by omega)).mono ?_; rintro e w' ⟨rfl, rfl⟩; rw [n1])
            | (go_at_call 60; refine (rClean_s q _ (by omega)).mono ?_; rintro e w' ⟨rfl, rfl⟩; rw [n2]))
          go_ret2
          exact ⟨by rw [HFN.out.1, HFN.out.2]; rfl, hbel⟩
        · have HFN := Lib.hid (HST.out.1 (by unfold prE; simp only []; rw [if_neg (by rw [n1]; decide), if_neg (by rw [n2]; decide)]))
          clear HST
          by_cases hk0 : k = 0
          · skip
            have HK := Lib.hid (show fmtK l (k + 1) = fmtK l k ++ (lowS p).data.toList ++ [61] ++ (escS (foldS q)).data.toList by
              have := HK1.out hk0
              subst hk0
              rw [← HPE.out] at this
              exact this)
            have hd0 : decide (0 < k) = false := by simp; omega
            clear hk0 HK1 HK2
            obtain ⟨pre0, hpre0⟩ : ∃ x, x = fmtK l k := ⟨_, rfl⟩
            rw [← hpre0] at hown hln HK
            have HP0 := Lib.hid hpre0; clear hpre0
            have own0 := hown
            have L0 := hbel
            go_wp2_with (first
              | (go_at_call 58; refine (rName_s p _ (by omega)).mono ?_; rintro e w' ⟨rfl, rfl⟩; rw [n1])
              | (go_at_call 60; refine (rClean_s q _ (by omega)).mono ?_; rintro e w' ⟨rfl, rfl⟩; rw [n2])
              | (go_at_call 59; refine (rLower_s p _ (by omega)).mono ?_; rintro e w1 ⟨rfl, hb1⟩; have L1 := L0.trans (hb1.mono L0.size); have own1 := own_below own0 hb1)
              | (at_builtin; refine push_all _ own1 (.tmp 33) (.tmp 39) (lowS p) ?_ ?_ ?_ ?_ ?_ ?_ ?_; exact rfl; exact rfl; exact rfl; exact rfl; omega; exact L1.size; intro v2 w2 own2 hb2; have L2 := L1.trans hb2)
              | (at_builtin; refine push_byte _ own2 (.tmp 41) (.tmp 42) _ ?_ ?_ ?_ ?_ ?_ ?_ ?_; exact rfl; exact rfl; exact rfl; exact rfl; omega; exact L2.size; intro v3 w3 own3 hb3; have L3 := L2.trans hb3; clear hc1 hc2; obtain ⟨hc1, hc2⟩ := HC.out _ L3)
              | (go_at_call 183; refine (rFold_s q _ (by omega)).mono ?_; rintro e w4 ⟨rfl, hb4⟩; have L4 := L3.trans (hb4.mono L3.size); have own4 := own_below own3 hb4))
            obtain ⟨t, htt⟩ : ∃ t, t = foldS q := ⟨_, rfl⟩
            rw [← htt] at hfz ⊢
            have HTT := Lib.hid htt; clear htt
            rw [← HTT.out] at HK
            have hbt := get_bt t
            have hlow : (lowS p).data.toList.length = (lowS p).size := (Lib.size_eq _).symm
            obtain ⟨pre, hpre⟩ : ∃ x, x = pre0 ++ (lowS p).data.toList ++ [61] := ⟨_, rfl⟩
            have hpl : pre0.length + (lowS p).size + 1 = pre.length := by rw [hpre]; simp only [List.length_append, List.length_cons, List.length_nil, hlow]
            have own5 : w4.ownsRow w.heap.size 5 1 v3 pre.length (bcells pre) := by
              rw [hpl] at own4
              have e : bcells pre = bcells pre0 ++ bcells (lowS p).data.toList ++ [.int .u8 61] := by rw [hpre, bcells_append, bcells_append]; rfl
              rw [e]; exact own4
            rw [← hpre] at HK
            have HPR := Lib.hid hpre; clear hpre own4 own3 own2 own1 own0 hown hc1 hc2
            clear HC
            go_loopw [4, 7] (fun bv i wx => ∃ j : Nat, j ≤ t.size ∧ i = .int .i64 j ∧ wx.ownsRow w.heap.size 5 1 bv (pre ++ escV (t.data.toList.take j)).length (bcells (pre ++ escV (t.data.toList.take j))) ∧ Below w.heap.size w wx)
              (fun _ i _ => t.size - (intOf i).toNat)
            case atStart => exact ⟨0, Nat.zero_le _, rfl, by simpa [escV] using own5, L4⟩
            case round =>
              obtain ⟨j, hj, rfl, ownx, Lx⟩ := hrel
              clear own5
              have hl3 := escV_len (t.data.toList.take j)
              have hl4 : (t.data.toList.take j).length ≤ j := List.length_take_le _ _
              have hl5 : (pre ++ escV (t.data.toList.take j)).length ≤ 100000000000 := by rw [List.length_append]; omega
              by_cases hjt : j < t.size
              · have HSTE := Lib.hid (escV_step t j hjt)
                have HCC := Lib.hid (bt_chr t j)
                obtain ⟨cur, hcur⟩ : ∃ x, x = pre ++ escV (t.data.toList.take j) := ⟨_, rfl⟩
                rw [← hcur] at ownx hl5
                have HCU := Lib.hid hcur; clear hcur
                cases c1 : spec4 (chr t j)
                · have HEND := Lib.hid (show pre ++ escV (t.data.toList.take (j + 1)) = cur ++ [chr t j] by rw [HCU.out, HSTE.out]; unfold escB; rw [c1]; simp)
                  go_wp2_with (first
                    | (go_at_call 184; refine (special_s _ (chr t j) _ HCC.out).mono ?_; rintro e w' ⟨rfl, rfl⟩; rw [c1])
                    | (at_builtin; refine push_byte _ ownx (.tmp 63) (.tmp 67) _ ?_ ?_ ?_ ?_ ?_ ?_ ?_; exact rfl; exact rfl; exact rfl; exact rfl; omega; exact Lx.size; intro v6 w6 own6 hb6))
                  go_roundw
                  case rel => exact ⟨j + 1, by omega, by go_num, by rw [HEND.out, List.length_append, bcells_append, bcells_one']; rw [HCC.out] at own6; exact own6, Lx.trans hb6⟩
                  case measure => simp [intOf]; omega
                · have HEND := Lib.hid (show pre ++ escV (t.data.toList.take (j + 1)) = (cur ++ [92]) ++ [chr t j] by rw [HCU.out, HSTE.out]; unfold escB; rw [c1]; simp)
                  go_wp2_with (first
                    | (go_at_call 184; refine (special_s _ (chr t j) _ HCC.out).mono ?_; rintro e w' ⟨rfl, rfl⟩; rw [c1])
                    | (at_builtin; refine push_byte _ ownx (.tmp 60) (.tmp 61) _ ?_ ?_ ?_ ?_ ?_ ?_ ?_; exact rfl; exact rfl; exact rfl; exact rfl; omega; exact Lx.size; intro v5 w5 own5 hb5; have L5 := Lx.trans hb5)
                    | (at_builtin; refine push_byte _ own5 (.tmp 63) (.tmp 67) _ ?_ ?_ ?_ ?_ ?_ ?_ ?_; exact rfl; exact rfl; exact rfl; exact rfl; omega; exact L5.size; intro v6 w6 own6 hb6))
                  go_roundw
                  case rel => exact ⟨j + 1, by omega, by go_num, by rw [HEND.out, List.length_append, List.length_append, bcells_append, bcells_append, bcells_one', bcells_one']; rw [HCC.out] at own6; exact own6, L5.trans hb6⟩
                  case measure => simp [intOf]; omega
              · have HT := Lib.hid (show fmtK l (k + 1) = pre ++ escV (t.data.toList.take j) by
                  rw [HK.out, List.take_of_length_le (show t.data.toList.length ≤ j by rw [← Lib.size_eq]; omega)]; rfl)
                rw [← HT.out] at ownx
                go_wp2
                go_roundw
                case rel => exact ⟨k + 1, by omega, by go_num, ownx, Lx, HFN⟩
                case measure => simp [intOf]; omega
          · skip
            have HK := Lib.hid (HK2.out (by omega))
            have hd0 : decide (0 < k) = true := by simp; omega
            clear hk0 HK1 HK2
            obtain ⟨preA, hpreA⟩ : ∃ x, x = fmtK l k := ⟨_, rfl⟩
            rw [← hpreA] at hown hln HK
            have HPA := Lib.hid hpreA; clear hpreA
            go_wp2_with (first
              | (go_at_call 58; refine (rName_s p _ (by omega)).mono ?_; rintro e w' ⟨rfl, rfl⟩; rw [n1])
              | (go_at_call 60; refine (rClean_s q _ (by omega)).mono ?_; rintro e w' ⟨rfl, rfl⟩; rw [n2])
              | (at_builtin; refine push_byte _ hown (.tmp 30) (.tmp 31) _ ?_ ?_ ?_ ?_ ?_ ?_ ?_; exact rfl; exact rfl; exact rfl; exact rfl; omega; exact hbel.size; intro v0 w0 own0 hb0; have L0 := hbel.trans hb0; clear hc1 hc2; obtain ⟨hc1, hc2⟩ := HC.out _ L0)
              | (go_at_call 59; refine (rLower_s p _ (by omega)).mono ?_; rintro e w1 ⟨rfl, hb1⟩; have L1 := L0.trans (hb1.mono L0.size); have own1 := own_below own0 hb1)
              | (at_builtin; refine push_all _ own1 (.tmp 33) (.tmp 39) (lowS p) ?_ ?_ ?_ ?_ ?_ ?_ ?_; exact rfl; exact rfl; exact rfl; exact rfl; omega; exact L1.size; intro v2 w2 own2 hb2; have L2 := L1.trans hb2)
              | (at_builtin; refine push_byte _ own2 (.tmp 41) (.tmp 42) _ ?_ ?_ ?_ ?_ ?_ ?_ ?_; exact rfl; exact rfl; exact rfl; exact rfl; omega; exact L2.size; intro v3 w3 own3 hb3; have L3 := L2.trans hb3; clear hc1 hc2; obtain ⟨hc1, hc2⟩ := HC.out _ L3)
              | (go_at_call 183; refine (rFold_s q _ (by omega)).mono ?_; rintro e w4 ⟨rfl, hb4⟩; have L4 := L3.trans (hb4.mono L3.size); have own4 := own_below own3 hb4))
            obtain ⟨t, htt⟩ : ∃ t, t = foldS q := ⟨_, rfl⟩
            rw [← htt] at hfz ⊢
            have HTT := Lib.hid htt; clear htt
            rw [← HTT.out] at HK
            have hbt := get_bt t
            have hlow : (lowS p).data.toList.length = (lowS p).size := (Lib.size_eq _).symm
            obtain ⟨pre, hpre⟩ : ∃ x, x = preA ++ [44] ++ (lowS p).data.toList ++ [61] := ⟨_, rfl⟩
            have hpl : (preA.length + 1) + (lowS p).size + 1 = pre.length := by rw [hpre]; simp only [List.length_append, List.length_cons, List.length_nil, hlow]
            have own5 : w4.ownsRow w.heap.size 5 1 v3 pre.length (bcells pre) := by
              rw [hpl] at own4
              have e : bcells pre = bcells preA ++ [.int .u8 44] ++ bcells (lowS p).data.toList ++ [.int .u8 61] := by rw [hpre, bcells_append, bcells_append, bcells_append]; rfl
              rw [e]; exact own4
            rw [← hpre] at HK
            have HPR := Lib.hid hpre; clear hpre own4 own3 own2 own1 own0 hown hc1 hc2
            clear HC
            go_loopw [4, 7] (fun bv i wx => ∃ j : Nat, j ≤ t.size ∧ i = .int .i64 j ∧ wx.ownsRow w.heap.size 5 1 bv (pre ++ escV (t.data.toList.take j)).length (bcells (pre ++ escV (t.data.toList.take j))) ∧ Below w.heap.size w wx)
              (fun _ i _ => t.size - (intOf i).toNat)
            case atStart => exact ⟨0, Nat.zero_le _, rfl, by simpa [escV] using own5, L4⟩
            case round =>
              obtain ⟨j, hj, rfl, ownx, Lx⟩ := hrel
              clear own5
              have hl3 := escV_len (t.data.toList.take j)
              have hl4 : (t.data.toList.take j).length ≤ j := List.length_take_le _ _
              have hl5 : (pre ++ escV (t.data.toList.take j)).length ≤ 100000000000 := by rw [List.length_append]; omega
              by_cases hjt : j < t.size
              · have HSTE := Lib.hid (escV_step t j hjt)
                have HCC := Lib.hid (bt_chr t j)
                obtain ⟨cur, hcur⟩ : ∃ x, x = pre ++ escV (t.data.toList.take j) := ⟨_, rfl⟩
                rw [← hcur] at ownx hl5
                have HCU := Lib.hid hcur; clear hcur
                cases c1 : spec4 (chr t j)
                · have HEND := Lib.hid (show pre ++ escV (t.data.toList.take (j + 1)) = cur ++ [chr t j] by rw [HCU.out, HSTE.out]; unfold escB; rw [c1]; simp)
                  go_wp2_with (first
                    | (go_at_call 184; refine (special_s _ (chr t j) _ HCC.out).mono ?_; rintro e w' ⟨rfl, rfl⟩; rw [c1])
                    | (at_builtin; refine push_byte _ ownx (.tmp 63) (.tmp 67) _ ?_ ?_ ?_ ?_ ?_ ?_ ?_; exact rfl; exact rfl; exact rfl; exact rfl; omega; exact Lx.size; intro v6 w6 own6 hb6))
                  go_roundw
                  case rel => exact ⟨j + 1, by omega, by go_num, by rw [HEND.out, List.length_append, bcells_append, bcells_one']; rw [HCC.out] at own6; exact own6, Lx.trans hb6⟩
                  case measure => simp [intOf]; omega
                · have HEND := Lib.hid (show pre ++ escV (t.data.toList.take (j + 1)) = (cur ++ [92]) ++ [chr t j] by rw [HCU.out, HSTE.out]; unfold escB; rw [c1]; simp)
                  go_wp2_with (first
                    | (go_at_call 184; refine (special_s _ (chr t j) _ HCC.out).mono ?_; rintro e w' ⟨rfl, rfl⟩; rw [c1])
                    | (at_builtin; refine push_byte _ ownx (.tmp 60) (.tmp 61) _ ?_ ?_ ?_ ?_ ?_ ?_ ?_; exact rfl; exact rfl; exact rfl; exact rfl; omega; exact Lx.size; intro v5 w5 own5 hb5; have L5 := Lx.trans hb5)
                    | (at_builtin; refine push_byte _ own5 (.tmp 63) (.tmp 67) _ ?_ ?_ ?_ ?_ ?_ ?_ ?_; exact rfl; exact rfl; exact rfl; exact rfl; omega; exact L5.size; intro v6 w6 own6 hb6))
                  go_roundw
                  case rel => exact ⟨j + 1, by omega, by go_num, by rw [HEND.out, List.length_append, List.length_append, bcells_append, bcells_append, bcells_one', bcells_one']; rw [HCC.out] at own6; exact own6, L5.trans hb6⟩
                  case measure => simp [intOf]; omega
              · have HT := Lib.hid (show fmtK l (k + 1) = pre ++ escV (t.data.toList.take j) by
                  rw [HK.out, List.take_of_length_le (show t.data.toList.length ≤ j by rw [← Lib.size_eq]; omega)]; rfl)
                rw [← HT.out] at ownx
                go_wp2
                go_roundw
                case rel => exact ⟨k + 1, by omega, by go_num, ownx, Lx, HFN⟩
                case measure => simp [intOf]; omega
    · have HT := Lib.hid (show k = l.length by omega)
      rw [HT.out] at hown HF
      by_cases h8 : 8 < l.length
      · have HE := Lib.hid ((fmt_end HF.out).1 h8)
        have hd8 : decide ((8 : Int) < (l.length : Int)) = true := decide_eq_true (by omega)
        go_wp2
        go_ret2
        exact ⟨by rw [HE.out.1, HE.out.2]; rfl, hbel⟩
      · have HE := Lib.hid ((fmt_end HF.out).2 h8)
        have hd8 : decide ((8 : Int) < (l.length : Int)) = false := decide_eq_false (by omega)
        have hbk := back hown
        go_wp2
        go_ret2
        exact ⟨by rw [HE.out.1, HE.out.2]; rfl, hbel⟩
end Nam
end Go.Proofs.YtbkignlbcneddaaGreatDoor
end

section
/-
  The contract of the specification's SamePairs. No condition.
-/
set_option maxRecDepth 100000
namespace Go.Proofs.YtbkignlbcneddaaGreatDoor
namespace Nam
open Go.RowKit Go.PlainAid
end Nam
end Go.Proofs.YtbkignlbcneddaaGreatDoor
end

section
/-
  Contracts of Clean, Valid, Depth, Parent and of what returns the components of a normal form, in the program and in the specification. Condition: at most 1100000 bytes.
-/
set_option maxRecDepth 100000
namespace Go.Proofs.YtbkignlbcneddaaGreatDoor
namespace Nam
open Go.RowKit Go.PlainAid
theorem prE_small {p : Pr} (h : prE p = 0) : p.1.size ≤ 64 ∧ p.2.size ≤ 256 := by
  obtain ⟨h1, h2⟩ := (prE_zero p).1 h
  unfold nameB at h1
  unfold cleanB at h2
  simp only [Bool.and_eq_true, decide_eq_true_eq] at h1 h2
  exact ⟨h1.1.1.2, h2.1.1.1.2⟩
theorem small_fine {l : List Pr} (h : ∀ p ∈ l, prE p = 0) (h8 : l.length ≤ 8) : Small l := small_of l (by omega) fun p hp => by have := prE_small (h p hp); omega
theorem small_parse (s : ByteArray) : Small (parseV s) := by
  by_cases h : parseE s = 0
  · exact small_fine (parseV_ok h).1 (parseV_ok h).2
  · unfold parseV; rw [if_neg h]; exact ⟨by simp, fun j hj => by simp at hj⟩
theorem str_eq (a b : ByteArray) : (a.toList == b.toList) = decide (a = b) := by
  rw [Lib.toList_data, Lib.toList_data, Bool.eq_iff_iff, beq_iff_eq, decide_eq_true_eq]
  exact ⟨fun h => by rw [← Lib.mk_data a, ← Lib.mk_data b, h], fun h => by rw [h]⟩
/-- what returns the components: a value that owns them, and whether the string is in normal form -/
def CompsPost (s : ByteArray) (w : World) (e : Ending) (w' : World) : Prop :=
  ∃ v, e = .returned (.tuple #[v, .bool (normB s)]) ∧ w'.ownsRow w.heap.size 143 2 v (compsV s).length (pcells (compsV s)) ∧ Below w.heap.size w w'
set_option maxRecDepth 100000 in
set_option maxHeartbeats 2000000 in
theorem components_s (s : ByteArray) (w : World) (hs : s.size ≤ 1100000) :
    Calls Tryz.prog 99 #[.string s] w (CompsPost s w) := by
  go_enter Tryz.func99, Tryz.ntmps99
  go_wp2_with fail
  refine (parse_s s _ hs).mono ?_
  rintro e w1 ⟨v, rfl, hown, hb⟩
  by_cases hE : parseE s = 0
  · obtain ⟨ao, cap, rfl, hat⟩ := pairs_own hown rfl
    have hF := fmt_parse_ok hE
    rw [hE]
    go_wp2_with fail
    refine (format_s ao _ cap (parseV s) _ hat (small_parse s)).mono ?_
    rintro e w2 ⟨rfl, hb2⟩
    rw [hF]
    have hown2 := own_below hown hb2
    have L2 := hb.trans (hb2.mono hb.size)
    by_cases hq : fmtV (parseV s) = s
    · have HN := Lib.hid (show normB s = true from (norm_iff s).2 ⟨hE, hq⟩)
      have HV := Lib.hid (show compsV s = parseV s by unfold compsV; rw [HN.out]; rfl)
      have q1 : ((fmtV (parseV s)).toList == s.toList) = true := by rw [str_eq]; exact decide_eq_true hq
      have q2 : ((fmtV (parseV s)).toList != s.toList) = false := by unfold bne; rw [q1]; rfl
      clear hq hE hF
      go_wp2
      go_ret2
      exact ⟨_, by rw [HN.out]; rfl, by rw [HV.out]; exact hown2, L2⟩
    · have HN := Lib.hid (show normB s = false by rw [Bool.eq_false_iff]; intro e; exact hq ((norm_iff s).1 e).2)
      have q1 : ((fmtV (parseV s)).toList == s.toList) = false := by rw [str_eq]; exact decide_eq_false hq
      have q2 : ((fmtV (parseV s)).toList != s.toList) = true := by unfold bne; rw [q1]; rfl
      clear hq hE hF
      go_wp2
      go_ret2
      exact ⟨_, by rw [HN.out]; rfl, by rw [comps_none HN.out]; exact World.ownsRow_nil _ _ _ _, L2⟩
  · have HN := Lib.hid (show normB s = false by rw [Bool.eq_false_iff]; intro e; exact hE ((norm_iff s).1 e).1)
    have q0 : (parseE s != 0) = true := by simpa using hE
    clear hE
    generalize parseE s = k at q0 ⊢
    go_wp2
    go_ret2
    exact ⟨_, by rw [HN.out]; rfl, by rw [comps_none HN.out]; exact World.ownsRow_nil _ _ _ _, hb⟩
set_option maxRecDepth 100000 in
set_option maxHeartbeats 2000000 in
theorem rclean0_s (s : ByteArray) (w : World) (hs : s.size ≤ 1100000) :
    Calls Tryz.prog 103 #[.string s] w fun e w' => e = .returned (.tuple #[.string (cleanV s), .int .i64 (cleanE s)]) ∧ Below w.heap.size w w' := by
  go_enter Tryz.func103, Tryz.ntmps103
  go_wp2_with fail
  refine (rparse_s s _ hs).mono ?_
  rintro e w1 ⟨v, rfl, hown, hb⟩
  by_cases hE : parseE s = 0
  · obtain ⟨ao, cap, rfl, hat⟩ := pairs_own hown rfl
    have HV := Lib.hid (show cleanV s = fmtV (parseV s) ∧ cleanE s = fmtE (parseV s) by unfold cleanV cleanE; rw [if_pos hE, if_pos hE]; exact ⟨rfl, rfl⟩)
    rw [hE]
    clear hE
    go_wp2_with fail
    refine (rformat_s ao _ cap (parseV s) _ hat (small_parse s)).mono ?_
    rintro e w2 ⟨rfl, hb2⟩
    go_wp2
    go_ret2
    exact ⟨by rw [HV.out.1, HV.out.2]; rfl, hb.trans (hb2.mono hb.size)⟩
  · have HV := Lib.hid (show cleanV s = ByteArray.empty ∧ cleanE s = parseE s by unfold cleanV cleanE; rw [if_neg hE, if_neg hE]; exact ⟨rfl, rfl⟩)
    have q0 : (parseE s != 0) = true := by simpa using hE
    clear hE
    generalize parseE s = k at q0 HV ⊢
    go_wp2
    go_ret2
    exact ⟨by rw [HV.out.1, HV.out.2]; rfl, hb⟩
set_option maxRecDepth 100000 in
set_option maxHeartbeats 2000000 in
theorem valid_s (s : ByteArray) (w : World) (hs : s.size ≤ 1100000) :
    Calls Tryz.prog 53 #[.string s] w fun e w' => e = .returned (.bool (normB s)) ∧ Below w.heap.size w w' := by
  go_enter Tryz.func53, Tryz.ntmps53
  go_wp2_with fail
  refine (components_s s _ hs).mono ?_
  rintro e w1 ⟨v, rfl, hown, hb⟩
  go_wp2
  go_ret
  exact ⟨rfl, hb⟩
set_option maxRecDepth 100000 in
set_option maxHeartbeats 2000000 in
theorem rvalid_s (s : ByteArray) (w : World) (hs : s.size ≤ 1100000) :
    Calls Tryz.prog 57 #[.string s] w fun e w' => e = .returned (.bool (normB s)) ∧ Below w.heap.size w w' := by
  have HN := Lib.hid (norm_clean s)
  go_enter Tryz.func57, Tryz.ntmps57
  go_wp2_with fail
  refine (rclean0_s s _ hs).mono ?_
  rintro e w1 ⟨rfl, hb⟩
  by_cases hE : cleanE s = 0
  · have q1 := str_eq (cleanV s) s
    have q0 : (cleanE s == 0) = true := by simpa using hE
    cases c : decide (cleanV s = s)
    · rw [c] at q1 HN
      have HF := Lib.hid (show normB s = false by rw [HN.out]; simp)
      clear hE
      go_wp2
      go_ret
      exact ⟨by rw [HF.out]; rfl, hb⟩
    · rw [c] at q1 HN
      have HF := Lib.hid (show normB s = true by rw [HN.out, hE]; rfl)
      clear hE
      go_wp2
      go_ret
      exact ⟨by rw [HF.out]; rfl, hb⟩
  · have q0 : (cleanE s == 0) = false := by simpa using hE
    have HF := Lib.hid (show normB s = false by rw [HN.out, decide_eq_false hE]; rfl)
    clear hE
    go_wp2
    go_ret
    exact ⟨by rw [HF.out]; rfl, hb⟩
end Nam
end Go.Proofs.YtbkignlbcneddaaGreatDoor
end

section
/-
  Plain facts: reading gives back what was escaped, and what is read has just this escaped form. No condition.
-/
set_option maxRecDepth 100000
namespace Go.Proofs.YtbkignlbcneddaaGreatDoor
open Go.PlainAid
theorem dec_table : ∀ n : Nat, n < 256 → decC (hexC (n / 16)) (hexC (n % 16)) = if plainC (UInt8.ofNat n) then none else some (UInt8.ofNat n) := by decide +kernel
theorem dec_esc (c : UInt8) (h : plainC c = false) : decC (hexC (c.toNat / 16)) (hexC (c.toNat % 16)) = some c := by
  have := dec_table c.toNat c.toNat_lt
  rw [UInt8.ofNat_toNat, h] at this
  simpa using this
theorem plain_pct : plainC 37 = false := by decide
theorem unesc_esc : ∀ l : List UInt8, unesc (escL l) = some l
  | [] => rfl
  | c :: r => by
    have ih := unesc_esc r
    have e : escL (c :: r) = escC c ++ escL r := by simp [escL]
    rw [e]
    cases h : plainC c
    · rw [escC_other c h]
      show unesc (37 :: hexC (c.toNat / 16) :: hexC (c.toNat % 16) :: escL r) = some (c :: r)
      conv => lhs; unfold unesc
      rw [if_pos rfl]
      simp only []
      rw [dec_esc c h, ih]; rfl
    · have hc : c ≠ 37 := fun e => by rw [e, plain_pct] at h; cases h
      rw [escC_plain c h]
      show unesc (c :: escL r) = some (c :: r)
      conv => lhs; unfold unesc
      rw [if_neg hc, if_pos h, ih]; rfl
theorem dec_inv_table : ∀ a : Nat, a < 256 → ∀ b : Nat, b < 256 → (match decC (UInt8.ofNat a) (UInt8.ofNat b) with
    | some c => decide (plainC c = false) && decide (hexC (c.toNat / 16) = UInt8.ofNat a) && decide (hexC (c.toNat % 16) = UInt8.ofNat b)
    | none => true) = true := by decide +kernel
theorem dec_inv (a b c : UInt8) (h : decC a b = some c) : plainC c = false ∧ hexC (c.toNat / 16) = a ∧ hexC (c.toNat % 16) = b := by
  have := dec_inv_table a.toNat a.toNat_lt b.toNat b.toNat_lt
  rw [UInt8.ofNat_toNat, UInt8.ofNat_toNat, h] at this
  simpa [and_assoc] using this
theorem esc_unesc (l m : List UInt8) (h : unesc l = some m) : escL m = l := by
  induction hn : l.length using Nat.strongRecOn generalizing l m with
  | ind n ih =>
    cases l with
    | nil => unfold unesc at h; cases h; rfl
    | cons c r =>
      unfold unesc at h
      by_cases hc : c = 37
      · rw [if_pos hc] at h
        match r, h, hn with
        | a :: b :: r', h, hn =>
          simp only [] at h
          split at h
          · rename_i d hd
            obtain ⟨x, hx, rfl⟩ := Option.map_eq_some_iff.1 h
            have := ih r'.length (by simp at hn; omega) r' x hx rfl
            obtain ⟨h1, h2, h3⟩ := dec_inv a b d hd
            have e : escL (d :: x) = escC d ++ escL x := by simp [escL]
            rw [e, escC_other d h1, h2, h3, this, hc]; rfl
          · cases h
        | [a], h, _ => cases h
        | [], h, _ => cases h
      · rw [if_neg hc] at h
        split at h
        · rename_i hp
          obtain ⟨x, hx, rfl⟩ := Option.map_eq_some_iff.1 h
          have := ih r.length (by simp at hn; omega) r x hx rfl
          have e : escL (c :: x) = escC c ++ escL x := by simp [escL]
          rw [e, escC_plain c hp, this]; rfl
        · cases h
end Go.Proofs.YtbkignlbcneddaaGreatDoor
end

section
/-
  Contracts of codec.escaped and codec.Unescape. Condition: at most 1000000000 bytes.
-/
set_option maxRecDepth 100000
namespace Go.Proofs.YtbkignlbcneddaaGreatDoor
open Go.RowKit Go.PlainAid
theorem hex_index (x : Int) (c : UInt8) (w : World) (hx : x = (c.toNat : Int)) :
    Calls Tryz.prog 167 #[.string ⟨#[48, 49, 50, 51, 52, 53, 54, 55, 56, 57, 65, 66, 67, 68, 69, 70]⟩, .int .u8 x] w fun e w' => e = .returned (.int .i64 (hexV c)) ∧ w = w' := by
  refine (Tryz.strings_IndexByte ⟨#[48, 49, 50, 51, 52, 53, 54, 55, 56, 57, 65, 66, 67, 68, 69, 70]⟩ x w).mono fun e w' h => ⟨?_, h.2.symm⟩
  rw [h.1]
  have e1 : x.toNat.toUInt8 = c := by subst hx; simp
  rw [e1]; rfl
theorem or_table : ∀ a : Nat, a < 16 → ∀ b : Nat, b < 16 → bits BinOp.or IntKind.i64 ((a : Int) * 16) (b : Int) % 256 = 16 * (a : Int) + (b : Int) := by decide +kernel
theorem or_hex (a b : Int) (a0 : 0 ≤ a) (a1 : a ≤ 15) (b0 : 0 ≤ b) (b1 : b ≤ 15) : bits BinOp.or IntKind.i64 (a * 16) b % 256 = 16 * a + b := by
  have := or_table a.toNat (by omega) b.toNat (by omega)
  rw [Int.toNat_of_nonneg a0, Int.toNat_of_nonneg b0] at this
  exact this
def escVal (o : Option UInt8) : Int := match o with
  | some d => (d.toNat : Int)
  | none => 0
set_option maxRecDepth 100000 in
set_option maxHeartbeats 2000000 in
theorem escaped_s (t : ByteArray) (w : World) (ht : t.size ≤ 1000000000) :
    Calls Tryz.prog 132 #[.string t] w fun e w' => e = .returned (.tuple #[.int .u8 (escVal (escO t)), .bool (escO t).isSome]) ∧ w = w' := by
  have hb := get_bt t
  by_cases h2 : t.size < 2
  · have HE := Lib.hid (show escO t = none by unfold escO; rw [if_pos h2])
    go_enter Tryz.func132, Tryz.ntmps132
    go_wp2
    go_ret2
    exact ⟨by rw [HE.out]; rfl, rfl⟩
  · have HE := Lib.hid (show escO t = decC (chr t 0) (chr t 1) by unfold escO; rw [if_neg h2])
    have r0 := hexV_le (chr t 0)
    have r1 := hexV_le (chr t 1)
    have H0 := Lib.hid (bt_chr t 0)
    have H1 := Lib.hid (bt_chr t 1)
    go_enter Tryz.func132, Tryz.ntmps132
    go_wp2_with fail
    refine (hex_index _ (chr t 0) _ H0.out).mono ?_
    rintro e w' ⟨rfl, rfl⟩
    go_wp2_with fail
    refine (hex_index _ (chr t 1) _ H1.out).mono ?_
    rintro e w' ⟨rfl, rfl⟩
    obtain ⟨v0, hv0⟩ : ∃ v, v = hexV (chr t 0) := ⟨_, rfl⟩
    obtain ⟨v1, hv1⟩ : ∃ v, v = hexV (chr t 1) := ⟨_, rfl⟩
    rw [← hv0] at r0 ⊢
    rw [← hv1] at r1 ⊢
    have HV0 := Lib.hid hv0; have HV1 := Lib.hid hv1; clear hv0 hv1
    by_cases n0 : v0 < 0
    · have HF := Lib.hid (show escO t = none by rw [HE.out]; unfold decC; rw [if_pos (.inl (by rw [← HV0.out]; exact n0))])
      go_wp2
      go_ret2
      exact ⟨by rw [HF.out]; rfl, rfl⟩
    · by_cases n1 : v1 < 0
      · have HF := Lib.hid (show escO t = none by rw [HE.out]; unfold decC; rw [if_pos (.inr (by rw [← HV1.out]; exact n1))])
        go_wp2
        go_ret2
        exact ⟨by rw [HF.out]; rfl, rfl⟩
      · go_wp2_with fail
        have hor := or_hex v0 v1 (by omega) r0.2 (by omega) r1.2
        rw [hor]
        obtain ⟨x, hxe⟩ : ∃ x, x = 16 * v0 + v1 := ⟨_, rfl⟩
        have hx0 : 0 ≤ x ∧ x ≤ 255 := by omega
        rw [← hxe]
        have HX := Lib.hid hxe; clear hxe hor
        have HD := Lib.hid (show escO t = if plainI x then none else some (UInt8.ofNat x.toNat) by
          rw [HE.out]; unfold decC; rw [if_neg (by rw [← HV0.out, ← HV1.out]; omega), ← HV0.out, ← HV1.out, ← HX.out])
        cases c : plainI x
        · have HF := Lib.hid (show escO t = some (UInt8.ofNat x.toNat) by rw [HD.out, c]; rfl)
          have HN := Lib.hid (show x = ((UInt8.ofNat x.toNat).toNat : Int) by rw [UInt8.toNat_ofNat']; omega)
          go_wp2_with (go_at_call 129; refine (plain_any _ _ hx0.1 hx0.2).mono ?_; rintro e w' ⟨rfl, rfl⟩)
          go_ret2
          refine ⟨?_, rfl⟩
          rw [HF.out]
          show Ending.returned (.tuple #[.int .u8 x, .bool true]) = Ending.returned (.tuple #[.int .u8 ((UInt8.ofNat x.toNat).toNat : Int), .bool true])
          rw [← HN.out]
        · have HF := Lib.hid (show escO t = none by rw [HD.out, c]; rfl)
          go_wp2_with (go_at_call 129; refine (plain_any _ _ hx0.1 hx0.2).mono ?_; rintro e w' ⟨rfl, rfl⟩)
          go_ret2
          exact ⟨by rw [HF.out]; rfl, rfl⟩
/-- the value that Unescape returns, and its error -/
def unS (s : ByteArray) : ByteArray := match unesc s.data.toList with
  | some l => ⟨l.toArray⟩
  | none => ⟨#[]⟩
def unE (s : ByteArray) : Int := match unesc s.data.toList with
  | some _ => 0
  | none => 4
set_option maxRecDepth 100000 in
set_option maxHeartbeats 4000000 in
theorem unescape_s (s : ByteArray) (w : World) (hs : s.size ≤ 1000000000) :
    Calls Tryz.prog 95 #[.string s] w fun e w' => e = .returned (.tuple #[.string (unS s), .int .i64 (unE s)]) ∧ Below w.heap.size w w' := by
  have hb := get_bt s
  have HN := Lib.hid (bld_new w)
  go_enter Tryz.func95, Tryz.ntmps95
  go_wp2
  go_loopw [5] (fun iv wr => ∃ (i : Nat) (out : List UInt8), i ≤ s.size ∧ iv = .int .i64 i ∧ out.length ≤ i ∧ Hid (unesc s.data.toList = (unesc (s.data.toList.drop i)).map (out ++ ·)) ∧ Bld w.heap.size w.heap.size out wr ∧ Below w.heap.size w wr)
    (fun iv _ => s.size - (intOf iv).toNat)
  case atStart => exact ⟨0, [], Nat.zero_le _, rfl, by simp, Lib.hid (by simp), HN.out, (Below.refl _ _).alloc (Nat.le_refl _) _⟩
  case round =>
    obtain ⟨i, out, hi, rfl, hol, HU, HB, hbel⟩ := hrel
    have h0 := bt_nonneg s i
    have h255 := bt_le s i
    by_cases hlt : i < s.size
    · have HD := Lib.hid (drop_chr s i hlt)
      have HC := Lib.hid (bt_chr s i)
      cases c0 : (bt s i == 37)
      · have H37 := Lib.hid (show chr s i ≠ 37 from fun e => by rw [HC.out, e] at c0; simp at c0)
        cases c1 : plainI (bt s i)
        · have HF := Lib.hid (show unesc s.data.toList = none by
            rw [HU.out, HD.out]; unfold unesc; rw [if_neg H37.out, plain_chr, c1]; rfl)
          go_wp2_with (go_at_call 129; refine (plain_any _ _ h0 h255).mono ?_; rintro e w' ⟨rfl, rfl⟩)
          go_ret2
          exact ⟨by unfold unS unE; rw [HF.out]; rfl, hbel⟩
        · have HF := Lib.hid (show unesc s.data.toList = (unesc (s.data.toList.drop (i + 1))).map ((out ++ [chr s i]) ++ ·) by
            rw [HU.out, HD.out]; conv => lhs; arg 2; unfold unesc
            rw [if_neg H37.out, plain_chr, c1, if_pos rfl, Option.map_map]; congr 1; funext l; simp)
          go_wp2_with (go_at_call 129; refine (plain_any _ _ h0 h255).mono ?_; rintro e w' ⟨rfl, rfl⟩)
          refine (writeByte_s w.heap.size w.heap.size _ (chr s i) _ _ HB HC.out (by omega) hbel.size).mono ?_
          rintro e w1 ⟨rfl, HB1, hb1⟩
          go_wp2
          go_roundw
          case rel => exact ⟨i + 1, _, by omega, by go_num, by simp; omega, HF, HB1, hbel.trans hb1⟩
          case measure => simp [intOf]; omega
      · have H37 := Lib.hid (show chr s i = 37 from by
          have : bt s i = 37 := by simpa using c0
          rw [HC.out] at this; exact UInt8.toNat_inj.1 (by have h3 : (37 : UInt8).toNat = 37 := rfl; omega))
        have hse : (s.extract (i + 1) s.size) = dr s (i + 1) := Lib.extract_from s (i + 1)
        have hds := dr_size s (i + 1)
        have HE := Lib.hid (unesc_pct s i hlt H37.out)
        cases c1 : escO (dr s (i + 1)) with
        | none =>
          have HF := Lib.hid (show unesc s.data.toList = none by rw [HU.out, HE.out, c1]; rfl)
          go_wp2_with (go_at_call 132; refine (escaped_s _ _ ?_).mono ?_; (omega); rintro e w' ⟨rfl, rfl⟩)
          go_ret2
          exact ⟨by unfold unS unE; rw [HF.out]; rfl, hbel⟩
        | some d =>
          have HF := Lib.hid (show unesc s.data.toList = (unesc (s.data.toList.drop (i + 3))).map ((out ++ [d]) ++ ·) by
            rw [HU.out, HE.out, c1]; show Option.map _ (Option.map _ _) = _; rw [Option.map_map]; congr 1; funext l; simp)
          have h3 : i + 3 ≤ s.size := by
            have : ¬ (dr s (i + 1)).size < 2 := fun h => by unfold escO at c1; rw [if_pos h] at c1; cases c1
            rw [dr_size] at this; omega
          go_wp2_with (go_at_call 132; refine (escaped_s _ _ ?_).mono ?_; (omega); rintro e w' ⟨rfl, rfl⟩)
          refine (writeByte_s w.heap.size w.heap.size _ d _ _ HB rfl (by omega) hbel.size).mono ?_
          rintro e w1 ⟨rfl, HB1, hb1⟩
          go_wp2
          go_roundw
          case rel => exact ⟨i + 3, _, by omega, by go_num, by simp; omega, HF, HB1, hbel.trans hb1⟩
          case measure => simp [intOf]; omega
    · have HF := Lib.hid (show unesc s.data.toList = some out by
        rw [HU.out, List.drop_eq_nil_of_le (by rw [← Lib.size_eq]; omega)]; simp [unesc])
      go_wp2_with (go_at_call 63; refine (string_s w.heap.size w.heap.size _ _ HB hbel.size).mono ?_; rintro e w1 ⟨rfl, hb1⟩)
      go_ret2
      exact ⟨by unfold unS unE; rw [HF.out]; rfl, hbel.trans hb1⟩
end Go.Proofs.YtbkignlbcneddaaGreatDoor
end

section
/-
  The contract of codec.Split. Condition: at most 1000000 bytes.
-/
set_option maxRecDepth 100000
namespace Go.Proofs.YtbkignlbcneddaaGreatDoor
open Go.RowKit Go.PlainAid
theorem cut_b (t : ByteArray) (b : UInt8) (w : World) (ht : t.size ≤ 1000000000) (hm : MaxOk w) :
    Calls Tryz.prog 64 #[.string t, .string ⟨#[b]⟩] w fun e w' => e = .returned (.tuple #[.string (cutBef t ⟨#[b]⟩), .string (cutAft t ⟨#[b]⟩), .bool (cutOk t ⟨#[b]⟩)]) ∧ Below w.heap.size w w' := by
  obtain ⟨m, hm⟩ := hm
  refine (Tryz.strings_Cut t ⟨#[b]⟩ m w (by omega) hm).mono fun e w' h => ⟨h.1, ?_⟩
  obtain ⟨n, rfl⟩ := h.2
  exact ⟨rfl, rfl, rfl, Nat.le_refl _, fun _ _ => rfl⟩
def boolN : Value → Nat
  | .bool true => 1
  | _ => 0
theorem unS_some {s : ByteArray} {x : List UInt8} (h : unesc s.data.toList = some x) : unS s = ofL x ∧ unE s = 0 := by unfold unS unE ofL; rw [h]; exact ⟨rfl, rfl⟩
theorem unS_none {s : ByteArray} (h : unesc s.data.toList = none) : unS s = ⟨#[]⟩ ∧ unE s = 4 := by unfold unS unE; rw [h]; exact ⟨rfl, rfl⟩
end Go.Proofs.YtbkignlbcneddaaGreatDoor
end
