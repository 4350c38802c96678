/-
  Texts of the schema layer and of those beneath it, joined: NamK, NamS, NamR, NamB. Conditions stand at each contract.
-/
import Derived.Test.YtbkignlbcneddaaGreatDoorX05
import Derived.Test.YtbkignlbcneddaaGreatDoorX06
set_option linter.unusedVariables false
set_option linter.unusedSimpArgs false
set_option linter.unnecessarySimpa false

section
/-
  Contracts of name.component and of the specification's component. Condition: at most 1000000000 bytes.
-/
set_option maxRecDepth 100000
namespace Go.Proofs.YtbkignlbcneddaaGreatDoor
namespace Nam
open Go.RowKit Go.PlainAid
/-- a block that holds one pair -/
def PBox (w : World) (b : Nat) (p : Pr) : Prop := w.heap[b]? = some (.cells #[.string p.1, .string p.2] 143)
theorem PBox.cells {w : World} {b : Nat} {p : Pr} (h : PBox w b p) : w.cell? ⟨b, 0, none⟩ = some (.string p.1) ∧ w.cell? ⟨b, 1, none⟩ = some (.string p.2) := by
  unfold PBox at h
  exact ⟨by rw [Lib.cell_of_heap h]; rfl, by rw [Lib.cell_of_heap h]; rfl⟩
theorem PBox.loose {w : World} {b : Nat} {p : Pr} (h : PBox w b p) : w.frozen? ⟨b, 0, none⟩ = false ∧ w.frozen? ⟨b, 1, none⟩ = false := by
  unfold PBox at h
  exact ⟨Lib.frozen_of_heap h 0, Lib.frozen_of_heap h 1⟩
theorem PBox.lt {w : World} {b : Nat} {p : Pr} (h : PBox w b p) : b < w.heap.size := by
  unfold PBox at h
  rcases Nat.lt_or_ge b w.heap.size with h' | h'
  · exact h'
  · simp [Array.getElem?_eq_none h'] at h
theorem PBox.below {w w' : World} {b : Nat} {p : Pr} (h : PBox w b p) (hb : Below w.heap.size w w') : PBox w' b p := by
  unfold PBox
  rw [hb.block b h.lt]; exact h
theorem pbox_new (w : World) (p : Pr) : PBox (w.alloc (.cells #[.string p.1, .string p.2] 143)) w.heap.size p := heap_alloc_new w _
theorem rawV_cut {p : ByteArray} (h : nextP 61 p.data.toList < p.size) : trimS (cutZ 61 p) = rawV p := by unfold rawV cutZ; rw [if_pos h]
theorem rawV_nocut {p : ByteArray} (h : nocut 44 p.data.toList) (hf : nextP 61 p.data.toList < p.size) : nocut 44 (rawV p).data.toList := by
  have h2 := nocut_drop 44 61 (by decide) (by decide) p.data.toList h (by rw [← Lib.size_eq]; exact hf)
  exact nocut_trim 44 (by decide) _ h2
theorem compE_none {p : ByteArray} (hf : nextP 61 p.data.toList < p.size) (hv : valP (rawV p).data.toList = none) : compE p = 4 ∧ compR p = nilPr := by
  have : compE p = 4 := by unfold compE; rw [if_pos hf, hv]
  exact ⟨this, by unfold compR; rw [this]; rfl⟩
theorem compE_far {p : ByteArray} (hf : ¬ nextP 61 p.data.toList < p.size) : compE p = 4 ∧ compR p = nilPr := by
  have : compE p = 4 := by unfold compE; rw [if_neg hf]
  exact ⟨this, by unfold compR; rw [this]; rfl⟩
theorem compE_some {p : ByteArray} {v : List UInt8} (hf : nextP 61 p.data.toList < p.size) (hv : valP (rawV p).data.toList = some v) :
    compE p = prE (rawK p, ofB v) ∧ compR p = if prE (rawK p, ofB v) = 0 then (rawK p, ofB v) else nilPr := by
  have h1 : compE p = prE (rawK p, ofB v) := by unfold compE; rw [if_pos hf, hv]
  have h2 : compV p = (rawK p, ofB v) := by unfold compV; rw [hv]; rfl
  exact ⟨h1, by unfold compR; rw [h1, h2]⟩
theorem cutZ_size (c : UInt8) (s : ByteArray) : (cutZ c s).size ≤ s.size := by
  unfold cutZ; split
  · rw [dr_size]; omega
  · show 0 ≤ _; omega
theorem cutA_size (c : UInt8) (s : ByteArray) : (cutA c s).size ≤ s.size := by
  unfold cutA tk; rw [Lib.size_mk, List.length_take, Lib.size_eq]; omega
theorem valP_len : ∀ (l v : List UInt8), valP l = some v → v.length ≤ l.length
  | [], v, h => by unfold valP at h; cases h; simp
  | [x], v, h => by
    unfold valP at h
    by_cases h1 : x = 92
    · rw [if_pos h1] at h; cases h
    · rw [if_neg h1] at h
      split at h
      · cases h
      · cases h; simp
  | x :: y :: r, v, h => by
    unfold valP at h
    by_cases h1 : x = 92
    · rw [if_pos h1] at h
      simp only [] at h
      split at h
      · obtain ⟨u, hu, rfl⟩ := Option.map_eq_some_iff.1 h
        have := valP_len r u hu
        simp; omega
      · cases h
    · rw [if_neg h1] at h
      split at h
      · cases h
      · obtain ⟨u, hu, rfl⟩ := Option.map_eq_some_iff.1 h
        have := valP_len (y :: r) u hu
        simp at this ⊢; omega
theorem PBox.alloc {w : World} {b : Nat} {p : Pr} (h : PBox w b p) (o : Obj) : PBox (w.alloc o) b p := h.below ((Below.refl _ w).alloc (Nat.le_refl _) o)
theorem below_next {w wx w' : World} (h : Below w.heap.size w wx) (hb : Below wx.heap.size wx w') : Below w.heap.size w w' := h.trans (hb.mono h.size)
theorem below_set2 {w wx : World} (h : Below w.heap.size w wx) (a b : Value) : Below w.heap.size w ((wx.setCell ⟨w.heap.size, 0, none⟩ a).setCell ⟨w.heap.size, 1, none⟩ b) :=
  (h.setCell (p := ⟨w.heap.size, 0, none⟩) (Nat.le_refl _) a).setCell (p := ⟨w.heap.size, 1, none⟩) (Nat.le_refl _) b
theorem below_new {w : World} (o : Obj) : Below w.heap.size w (w.alloc o) := (Below.refl _ w).alloc (Nat.le_refl _) o
set_option maxRecDepth 100000 in
set_option maxHeartbeats 4000000 in
theorem component_s (p : ByteArray) (w : World) (hp : p.size ≤ 1000000000) (hn : nocut 44 p.data.toList) :
    Calls Tryz.prog 172 #[.string p] w fun e w' => e = .returned (.tuple #[.agg #[.string (compR p).1, .string (compR p).2], .int .i64 (compE p)]) ∧ Below w.heap.size w w' := by
  have hz0 := cutA_size 61 p
  have hz1 := trimS_size (cutA 61 p)
  have hz2 := cutZ_size 61 p
  have hz3 := trimS_size (cutZ 61 p)
  by_cases hf : nextP 61 p.data.toList < p.size
  · have HF := Lib.hid (show cutF 61 p = true by unfold cutF; exact decide_eq_true hf)
    have HQ := Lib.hid (show valQ (trimS (cutZ 61 p)).data.toList = valP (rawV p).data.toList by rw [rawV_cut hf]; exact valQ_valP _ (rawV_nocut hn hf))
    cases hv : valP (rawV p).data.toList with
    | none =>
      have HE := Lib.hid (compE_none hf hv)
      rw [hv] at HQ
      clear hv hf hn
      go_enter Tryz.func172, Tryz.ntmps172
      go_wp2_with fail
      refine (cut_s p 61 61 _ hp rfl).mono ?_
      rintro e w1 ⟨rfl, hb1⟩
      rw [HF.out]
      have B1 := (pbox_new w nilPr).below hb1
      have L1 := below_next (below_new _) hb1
      go_wp2_with fail
      refine (trim_s (cutZ 61 p) _ (by omega)).mono ?_
      rintro e w2 ⟨rfl, hb2⟩
      have B2 := B1.below hb2
      have L2 := below_next L1 hb2
      go_wp2_with fail
      refine (unescaped_s (trimS (cutZ 61 p)) _ (by omega)).mono ?_
      rintro e w3 ⟨rfl, hb3⟩
      rw [HQ.out]
      have B3 := B2.below hb3
      have L3 := below_next L2 hb3
      obtain ⟨c0, c1⟩ := B3.cells
      obtain ⟨f0, f1⟩ := B3.loose
      go_wp2
      refine bodyPost_ret (v := .tuple #[.agg #[.string ⟨#[]⟩, .string ⟨#[]⟩], .int .i64 4]) (by simp [results, Tryz.results172, go_sem, c0, c1, f0, f1]) rfl ⟨by rw [HE.out.1, HE.out.2]; rfl, ?_⟩
      exact below_set2 L3 _ _
    | some v =>
      obtain ⟨he, hr⟩ := compE_some hf hv
      have hvl := valP_len _ _ hv
      have hvs : (ofB v).size ≤ 1000000000 := by
        rw [ofB_size]
        rw [← Lib.size_eq] at hvl
        have h2 : (rawV p).size ≤ p.size := by unfold rawV; refine Nat.le_trans (trimS_size _) ?_; rw [dr_size]; omega
        omega
      have HE := Lib.hid (show compE p = prE (trimS (cutA 61 p), ofB v) from he)
      have HR := Lib.hid (show compR p = if prE (trimS (cutA 61 p), ofB v) = 0 then (trimS (cutA 61 p), ofB v) else nilPr from hr)
      rw [hv] at HQ
      clear hv hf hn he hr hvl
      go_enter Tryz.func172, Tryz.ntmps172
      go_wp2_with fail
      refine (cut_s p 61 61 _ hp rfl).mono ?_
      rintro e w1 ⟨rfl, hb1⟩
      rw [HF.out]
      have B1 := (pbox_new w nilPr).below hb1
      have L1 := below_next (below_new _) hb1
      go_wp2_with fail
      refine (trim_s (cutZ 61 p) _ (by omega)).mono ?_
      rintro e w2 ⟨rfl, hb2⟩
      have B2 := B1.below hb2
      have L2 := below_next L1 hb2
      go_wp2_with fail
      refine (unescaped_s (trimS (cutZ 61 p)) _ (by omega)).mono ?_
      rintro e w3 ⟨rfl, hb3⟩
      rw [HQ.out]
      have B3 := B2.below hb3
      have L3 := below_next L2 hb3
      go_wp2_with fail
      refine (trim_s (cutA 61 p) _ (by omega)).mono ?_
      rintro e w4 ⟨rfl, hb4⟩
      have B4 := B3.below hb4
      have L4 := below_next L3 hb4
      go_wp2_with fail
      refine (check_s (trimS (cutA 61 p), ofB v) _ (by simp only []; omega) hvs).mono ?_
      rintro e w5 ⟨rfl, hb5⟩
      have B5 := (B4.alloc _).below hb5
      have L5 := below_next (below_next L4 (below_new _)) hb5
      have D5 := (pbox_new w4 (trimS (cutA 61 p), ofB v)).below hb5
      obtain ⟨c0, c1⟩ := B5.cells
      obtain ⟨f0, f1⟩ := B5.loose
      obtain ⟨d0, d1⟩ := D5.cells
      generalize hk : prE (trimS (cutA 61 p), ofB v) = k at HE HR ⊢
      by_cases h0 : k = 0
      · have q0 : (k != 0) = false := by rw [h0]; rfl
        rw [if_pos h0] at HR
        have HE2 := Lib.hid (show compE p = 0 by rw [HE.out, h0])
        clear h0 hk
        go_wp2
        refine bodyPost_ret (v := .tuple #[.agg #[.string (trimS (cutA 61 p)), .string (ofB v)], .int .i64 0]) (by simp [results, Tryz.results172, go_sem, c0, c1, f0, f1]) rfl ⟨by rw [HE2.out, HR.out], ?_⟩
        exact below_set2 L5 _ _
      · have q0 : (k != 0) = true := by simpa using h0
        rw [if_neg h0] at HR
        clear h0 hk
        go_wp2
        refine bodyPost_ret (v := .tuple #[.agg #[.string ⟨#[]⟩, .string ⟨#[]⟩], .int .i64 k]) (by simp [results, Tryz.results172, go_sem, c0, c1, f0, f1]) rfl ⟨by rw [HE.out, HR.out]; rfl, ?_⟩
        exact below_set2 L5 _ _
  · have HF := Lib.hid (show cutF 61 p = false by unfold cutF; exact decide_eq_false hf)
    have HE := Lib.hid (compE_far hf)
    go_enter Tryz.func172, Tryz.ntmps172
    go_wp2_with fail
    refine (cut_s p 61 61 _ hp rfl).mono ?_
    rintro e w1 ⟨rfl, hb1⟩
    rw [HF.out]
    have B1 := (pbox_new w nilPr).below hb1
    have L1 := below_next (below_new _) hb1
    obtain ⟨c0, c1⟩ := B1.cells
    obtain ⟨f0, f1⟩ := B1.loose
    go_wp2
    refine bodyPost_ret (v := .tuple #[.agg #[.string ⟨#[]⟩, .string ⟨#[]⟩], .int .i64 4]) (by simp [results, Tryz.results172, go_sem, c0, c1, f0, f1]) rfl ⟨by rw [HE.out.1, HE.out.2]; rfl, ?_⟩
    exact below_set2 L1 _ _
set_option maxRecDepth 100000 in
set_option maxHeartbeats 4000000 in
theorem rcomponent_s (p : ByteArray) (w : World) (hp : p.size ≤ 1000000000) :
    Calls Tryz.prog 182 #[.string p] w fun e w' => e = .returned (.tuple #[.agg #[.string (compR p).1, .string (compR p).2], .int .i64 (compE p)]) ∧ Below w.heap.size w w' := by
  have hk := nextP_le 61 p.data.toList
  rw [← Lib.size_eq] at hk
  obtain ⟨k, hkk⟩ : ∃ k, nextP 61 p.data.toList = k := ⟨_, rfl⟩
  rw [hkk] at hk
  by_cases hf : k < p.size
  · have hd : decide ((p.size : Int) ≤ (k : Int)) = false := decide_eq_false (by omega)
    have he1 : p.extract (k + 1) p.size = dr p (k + 1) := Lib.extract_from p (k + 1)
    have he2 : p.extract 0 k = tk p k := extract_tk p k
    have hz1 := dr_size p (k + 1)
    have hz2 := trimS_size (dr p (k + 1))
    have hz3 := tk_size p k (by omega)
    have hz4 := trimS_size (tk p k)
    have hrv : rawV p = trimS (dr p (k + 1)) := by unfold rawV; rw [hkk]
    have hrk : rawK p = trimS (tk p k) := by unfold rawK; rw [hkk]
    have hf2 : nextP 61 p.data.toList < p.size := by rw [hkk]; exact hf
    cases hv : valP (rawV p).data.toList with
    | none =>
      have HE := Lib.hid (compE_none hf2 hv)
      rw [hrv] at hv
      have HQ := Lib.hid hv
      clear hv hrv hrk hf2
      go_enter Tryz.func182, Tryz.ntmps182
      go_wp2_with fail
      refine (next_s p 61 61 _ hp rfl).mono ?_
      rintro e w1 ⟨rfl, rfl⟩
      rw [hkk]
      have B1 := pbox_new w nilPr
      have L1 := below_new (w := w) (.cells #[.string ⟨#[]⟩, .string ⟨#[]⟩] 143)
      clear hkk
      go_wp2_with fail
      refine (rTrim_s (dr p (k + 1)) _ (by omega)).mono ?_
      rintro e w2 ⟨rfl, rfl⟩
      go_wp2_with fail
      refine (value_s (trimS (dr p (k + 1))) _ (by omega)).mono ?_
      rintro e w3 ⟨rfl, hb3⟩
      rw [HQ.out]
      have B3 := B1.below hb3
      have L3 := below_next L1 hb3
      obtain ⟨c0, c1⟩ := B3.cells
      obtain ⟨f0, f1⟩ := B3.loose
      go_wp2
      refine bodyPost_ret (v := .tuple #[.agg #[.string ⟨#[]⟩, .string ⟨#[]⟩], .int .i64 4]) (by simp [results, Tryz.results182, go_sem, c0, c1, f0, f1]) rfl ⟨by rw [HE.out.1, HE.out.2]; rfl, ?_⟩
      exact below_set2 L3 _ _
    | some v =>
      obtain ⟨he, hr⟩ := compE_some hf2 hv
      have hvl := valP_len _ _ hv
      have hvs : (ofB v).size ≤ 1000000000 := by
        rw [ofB_size]
        rw [← Lib.size_eq, hrv] at hvl
        omega
      rw [hrk] at he hr
      have HE := Lib.hid he
      have HR := Lib.hid hr
      rw [hrv] at hv
      have HQ := Lib.hid hv
      clear hv hrv hrk hf2 he hr hvl
      go_enter Tryz.func182, Tryz.ntmps182
      go_wp2_with fail
      refine (next_s p 61 61 _ hp rfl).mono ?_
      rintro e w1 ⟨rfl, rfl⟩
      rw [hkk]
      have B1 := pbox_new w nilPr
      have L1 := below_new (w := w) (.cells #[.string ⟨#[]⟩, .string ⟨#[]⟩] 143)
      clear hkk
      go_wp2_with fail
      refine (rTrim_s (dr p (k + 1)) _ (by omega)).mono ?_
      rintro e w2 ⟨rfl, rfl⟩
      go_wp2_with fail
      refine (value_s (trimS (dr p (k + 1))) _ (by omega)).mono ?_
      rintro e w3 ⟨rfl, hb3⟩
      rw [HQ.out, show optB (some v) = ofB v from rfl]
      have B3 := B1.below hb3
      have L3 := below_next L1 hb3
      go_wp2_with fail
      refine (rTrim_s (tk p k) _ (by omega)).mono ?_
      rintro e w4 ⟨rfl, rfl⟩
      have B4 := B3.alloc (.cells #[.string (trimS (tk p k)), .string (ofB v)] 143)
      have D4 := pbox_new w3 (trimS (tk p k), ofB v)
      have L4 := below_next L3 (below_new (.cells #[.string (trimS (tk p k)), .string (ofB v)] 143))
      obtain ⟨c0, c1⟩ := B4.cells
      obtain ⟨f0, f1⟩ := B4.loose
      obtain ⟨d0, d1⟩ := D4.cells
      cases n1 : nameB (trimS (tk p k))
      · have hp1 : prE (trimS (tk p k), ofB v) = 5 := by unfold prE; rw [if_pos n1]
        rw [hp1] at HE HR
        rw [if_neg (by decide)] at HR
        go_wp2_with (go_at_call 58; refine (rName_s (trimS (tk p k)) _ (by omega)).mono ?_; rintro e w' ⟨rfl, rfl⟩; rw [n1])
        refine bodyPost_ret (v := .tuple #[.agg #[.string ⟨#[]⟩, .string ⟨#[]⟩], .int .i64 5]) (by simp [results, Tryz.results182, go_sem, c0, c1, f0, f1]) rfl ⟨by rw [HE.out, HR.out]; rfl, ?_⟩
        exact below_set2 L4 _ _
      · cases n2 : cleanB (ofB v)
        · have hp1 : prE (trimS (tk p k), ofB v) = 8 := by unfold prE; simp only []; rw [if_neg (by rw [n1]; decide), if_pos n2]
          rw [hp1] at HE HR
          rw [if_neg (by decide)] at HR
          go_wp2_with (first
            | (go_at_call 58; refine (rName_s (trimS (tk p k)) _ (by omega)).mono ?_; rintro e w' ⟨rfl, rfl⟩; rw [n1])
            | (go_at_call 60; refine (rClean_s (ofB v) _ hvs).mono ?_; rintro e w' ⟨rfl, rfl⟩; rw [n2]))
          refine bodyPost_ret (v := .tuple #[.agg #[.string ⟨#[]⟩, .string ⟨#[]⟩], .int .i64 8]) (by simp [results, Tryz.results182, go_sem, c0, c1, f0, f1]) rfl ⟨by rw [HE.out, HR.out]; rfl, ?_⟩
          exact below_set2 L4 _ _
        · have hp1 : prE (trimS (tk p k), ofB v) = 0 := by unfold prE; simp only []; rw [if_neg (by rw [n1]; decide), if_neg (by rw [n2]; decide)]
          rw [hp1] at HE HR
          rw [if_pos rfl] at HR
          go_wp2_with (first
            | (go_at_call 58; refine (rName_s (trimS (tk p k)) _ (by omega)).mono ?_; rintro e w' ⟨rfl, rfl⟩; rw [n1])
            | (go_at_call 60; refine (rClean_s (ofB v) _ hvs).mono ?_; rintro e w' ⟨rfl, rfl⟩; rw [n2]))
          refine bodyPost_ret (v := .tuple #[.agg #[.string (trimS (tk p k)), .string (ofB v)], .int .i64 0]) (by simp [results, Tryz.results182, go_sem, c0, c1, f0, f1]) rfl ⟨by rw [HE.out, HR.out], ?_⟩
          exact below_set2 L4 _ _
  · have hd : decide ((p.size : Int) ≤ (k : Int)) = true := decide_eq_true (by omega)
    have HE := Lib.hid (compE_far (show ¬ nextP 61 p.data.toList < p.size by rw [hkk]; exact hf))
    go_enter Tryz.func182, Tryz.ntmps182
    go_wp2_with fail
    refine (next_s p 61 61 _ hp rfl).mono ?_
    rintro e w1 ⟨rfl, rfl⟩
    rw [hkk]
    have B1 := pbox_new w nilPr
    have L1 := below_new (w := w) (.cells #[.string ⟨#[]⟩, .string ⟨#[]⟩] 143)
    clear hkk
    go_wp2
    refine bodyPost_ret (v := .tuple #[.agg #[.string ⟨#[]⟩, .string ⟨#[]⟩], .int .i64 4]) (by simp [results, Tryz.results182, go_sem]) rfl ⟨by rw [HE.out.1, HE.out.2]; rfl, ?_⟩
    exact L1
end Nam
end Go.Proofs.YtbkignlbcneddaaGreatDoor
end

section
/-
  Pairs in memory: a slice of pairs, a row of pairs that the call owns, append of one pair. No condition.
-/
set_option maxRecDepth 100000
namespace Go.Proofs.YtbkignlbcneddaaGreatDoor
namespace Nam
open Go.RowKit Go.PlainAid
def prAt (ps : List Pr) (j : Nat) : Pr := ps.getD j (ByteArray.empty, ByteArray.empty)
theorem pr_take (ps : List Pr) (k : Nat) (h : k < ps.length) : ps.take (k + 1) = ps.take k ++ [prAt ps k] := by
  unfold prAt
  rw [List.take_succ_eq_append_getElem h, List.getD_eq_getElem?_getD, List.getElem?_eq_getElem h]; rfl
/-- a slice's pairs, as they lie in memory -/
def IsPairs (w : World) (b off : Nat) (ps : List Pr) : Prop :=
  b < w.heap.size ∧ ∀ j, j < ps.length → w.cell? ⟨b, off + j * 2, none⟩ = some (.string (prAt ps j).1) ∧ w.cell? ⟨b, off + j * 2 + 1, none⟩ = some (.string (prAt ps j).2)
theorem IsPairs.below {w w' : World} {b off : Nat} {ps : List Pr} (h : IsPairs w b off ps) {B : Nat} (hb : Below B w w') (hB : b < B) : IsPairs w' b off ps :=
  ⟨Nat.lt_of_lt_of_le h.1 hb.size, fun j hj => by
    rw [hb.cell (p := ⟨b, off + j * 2, none⟩) hB, hb.cell (p := ⟨b, off + j * 2 + 1, none⟩) hB]; exact h.2 j hj⟩
def PairsAt (w : World) (ao : Option Addr) (n cap : Nat) (ps : List Pr) : Prop :=
  ps.length = n ∧ n ≤ cap ∧ cap ≤ maxLen ∧ (0 < n → ∃ b off, ao = some ⟨b, off, none⟩ ∧ IsPairs w b off ps)
theorem PairsAt.below {w w' : World} {ao : Option Addr} {n cap : Nat} {ps : List Pr} (h : PairsAt w ao n cap ps) (hb : Below w.heap.size w w') : PairsAt w' ao n cap ps :=
  ⟨h.1, h.2.1, h.2.2.1, fun hn => by
    obtain ⟨b, off, e, hi⟩ := h.2.2.2 hn
    exact ⟨b, off, e, hi.below hb hi.1⟩⟩
/-- the cells of pairs -/
def pcells (l : List Pr) : List Value := l.flatMap fun p => [.string p.1, .string p.2]
theorem pcells_append (l m : List Pr) : pcells (l ++ m) = pcells l ++ pcells m := by simp [pcells]
theorem info_pair : (Tryz.prog.info? 143).map (fun i => (i.zero, i.size, i.bytes)) = some (some (.agg #[.string ⟨#[]⟩, .string ⟨#[]⟩]), 2, 32) := by kernel_rfl
theorem cells_two_new (w : World) (x y : Value) (t : TypeId) : ∀ j u, [x, y][j]? = some u → (w.alloc (.cells #[x, y] t)).cell? ((⟨w.heap.size, 0, none⟩ : Addr).add j) = some u := by
  intro j u hj
  have h : (w.alloc (.cells #[x, y] t)).heap[w.heap.size]? = some (.cells #[x, y] t (0, 0)) := heap_alloc_new w _
  rw [show (⟨w.heap.size, 0, none⟩ : Addr).add j = ⟨w.heap.size, j, none⟩ by rw [Go.WideShapes.add_plain, Nat.zero_add], Lib.cell_of_heap h]
  match j, hj with
  | 0, hj => simpa using hj
  | 1, hj => simpa using hj
  | j + 2, hj => simp at hj
/-- 'l = append(l, p)' where l is the call's own -/
theorem push_pair {ops : Array Oper} {rest : List Oper} {o : Oper} {a : Act} {Q : Exit → Act → World → Prop} (wr : World) {base : Nat} {v : Value} {n : Nat} {xs : List Value} (hown : wr.ownsRow base 143 2 v n xs) (s x : Operand)
    (p q : ByteArray) (hgd : o.guard = none)
    (ho : o.op = .call { callee := .builtin .append, args := #[s, x], argTypes := #[100, 100] })
    (hs : a.eval s = v) (hx : a.eval x = .slice (some ⟨wr.heap.size, 0, none⟩) 1 1) (hn : n + 1 ≤ 1000000000) (hbase : base ≤ wr.heap.size)
    (h : ∀ v' w', w'.ownsRow base 143 2 v' (n + 1) (xs ++ [.string p, .string q]) → Below base wr w' → wpList Tryz.prog ops Q rest (a.put o.dst v') w') :
    wpList Tryz.prog ops Q (o :: rest) a (wr.alloc (.cells #[.string p, .string q] 143)) := by
  obtain ⟨i0, hi, hz0, hz1, hz2⟩ := info_parts info_pair
  refine wpList_append_own _ hgd s x 100 ho base 143 i0 (.agg #[.string ⟨#[]⟩, .string ⟨#[]⟩]) 2 32 Tryz.underlying100 hi hz0 hz1 hz2 rfl (by decide) v n xs hs (hown.alloc _) ⟨wr.heap.size, 0, none⟩ 1 1 [.string p, .string q] hx rfl
    (cells_two_new _ _ _ _) (by intro u hu; simp at hu; rcases hu with rfl | rfl <;> rfl) (by unfold maxLen; omega) (by omega) (by simp; omega) ?_
  intro v' w' h1 h2 _
  refine h v' w' h1 ?_
  exact ((Below.refl base wr).alloc hbase _).grown h2 (by simp; omega) (fun k hk => (hown.lt k hk).1)
theorem own_below {w w' : World} {base : Nat} {e : TypeId} {size : Nat} {v : Value} {n : Nat} {xs : List Value} (h : w.ownsRow base e size v n xs) (hb : Below w.heap.size w w') : w'.ownsRow base e size v n xs :=
  h.kept (row := none) ⟨hb.os, hb.tape, hb.output, hb.size, fun k hk _ => hb.block k hk⟩ (by
    cases h : v.ownBlock
    · exact .inl rfl
    · exact .inr (by simp))
theorem pcells_at : ∀ (l : List Pr) (j : Nat), j < l.length → (pcells l)[j * 2]? = some (.string (prAt l j).1) ∧ (pcells l)[j * 2 + 1]? = some (.string (prAt l j).2)
  | [], j, h => by simp at h
  | p :: r, 0, h => ⟨rfl, rfl⟩
  | p :: r, j + 1, h => by
    have ih := pcells_at r j (by simp at h; omega)
    have e1 : (j + 1) * 2 = j * 2 + 2 := by omega
    rw [e1]
    exact ih
theorem pairs_own {w : World} {base n : Nat} {v : Value} {l : List Pr} (h : w.ownsRow base 143 2 v n (pcells l)) (hn : l.length = n) : ∃ ao cap, v = .slice ao n cap ∧ PairsAt w ao n cap l := by
  have h0 := h
  rcases h.2 with ⟨rfl, rfl⟩ | ⟨g, cap, cur, rfl, hb, hg, hc, hm, hcs, ht⟩
  · exact ⟨none, 0, rfl, hn, Nat.le_refl _, by unfold maxLen; omega, fun h => absurd h (Nat.lt_irrefl _)⟩
  · refine ⟨_, cap, rfl, hn, hc, hm, fun h1 => ⟨g, 0, rfl, ?_, fun j hj => ?_⟩⟩
    · rcases Nat.lt_or_ge g w.heap.size with h' | h'
      · exact h'
      · simp [Array.getElem?_eq_none h'] at hg
    · obtain ⟨p1, p2⟩ := pcells_at l j hj
      have h1 := h0.cells (g := g) rfl _ _ p1
      have h2 := h0.cells (g := g) rfl _ _ p2
      rw [Go.WideShapes.add_plain] at h1 h2
      exact ⟨h1, by rw [Nat.add_assoc]; exact h2⟩
def boolN : Value → Nat
  | .bool true => 1
  | _ => 0
/-- the pairs behind place k -/
theorem PairsAt.tail {w : World} {g off n cap : Nat} {l : List Pr} (h : PairsAt w (some ⟨g, off, none⟩) n cap l) (k : Nat) (hk : k ≤ n) : PairsAt w (some ⟨g, off + k * 2, none⟩) (n - k) (cap - k) (l.drop k) := by
  obtain ⟨h1, h2, h3, h4⟩ := h
  refine ⟨by rw [List.length_drop, h1], by omega, by omega, fun hn => ⟨g, off + k * 2, rfl, ?_⟩⟩
  obtain ⟨b, o, e, hp⟩ := h4 (by omega)
  cases e
  refine ⟨hp.1, fun j hj => ?_⟩
  rw [List.length_drop] at hj
  have := hp.2 (k + j) (by omega)
  have e1 : prAt (l.drop k) j = prAt l (k + j) := by unfold prAt; rw [List.getD_eq_getElem?_getD, List.getD_eq_getElem?_getD, List.getElem?_drop]
  rw [e1, show off + k * 2 + j * 2 = off + (k + j) * 2 by omega]
  exact this
theorem PairsAt.head {w : World} {ao : Option Addr} {n cap : Nat} {l : List Pr} (h : PairsAt w ao n cap l) (k : Nat) (hk : k ≤ n) (c : Nat) (hc : k ≤ c) (hc2 : c ≤ cap) : PairsAt w ao k c (l.take k) := by
  obtain ⟨h1, h2, h3, h4⟩ := h
  refine ⟨by rw [List.length_take]; omega, hc, by omega, fun hn => ?_⟩
  obtain ⟨b, o, e, hp⟩ := h4 (by omega)
  refine ⟨b, o, e, hp.1, fun j hj => ?_⟩
  rw [List.length_take] at hj
  have e1 : prAt (l.take k) j = prAt l j := by unfold prAt; rw [List.getD_eq_getElem?_getD, List.getD_eq_getElem?_getD, List.getElem?_take, if_pos (by omega)]
  rw [e1]
  exact hp.2 j (by omega)
theorem own_slice {w : World} {base n size : Nat} {e : TypeId} {v : Value} {xs : List Value} (h : w.ownsRow base e size v n xs) : ∃ ao cap, v = .slice ao n cap := by
  rcases h.2 with ⟨rfl, rfl⟩ | ⟨g, cap, cur, rfl, _⟩
  · exact ⟨none, 0, rfl⟩
  · exact ⟨_, cap, rfl⟩
end Nam
end Go.Proofs.YtbkignlbcneddaaGreatDoor
end

section
/-
  Contracts of name.Parse and of the specification's Parse. Condition: at most 1100000 bytes.
-/
set_option maxRecDepth 100000
namespace Go.Proofs.YtbkignlbcneddaaGreatDoor
namespace Nam
open Go.RowKit Go.PlainAid
/-- what is known between two pieces -/
def PAt (s u : ByteArray) (done : List ByteArray) (more : Bool) : Prop := firstE done = 0 ∧ piecesS s = done ++ (if more then (pieces 44 u.data.toList).map ofB else [])
theorem pAt_start (s : ByteArray) {m : Bool} (h : m = !(s.toList.isEmpty)) : PAt s s [] m := by
  refine ⟨rfl, ?_⟩
  rw [Lib.toList_data] at h
  unfold piecesS
  cases e : s.data.toList with
  | nil => rw [e] at h; rw [if_pos (by rw [Lib.size_eq, e]; rfl), h]; rfl
  | cons a l => rw [e] at h; rw [if_neg (by rw [Lib.size_eq, e]; simp), h]; rfl
theorem pieces_u (u : ByteArray) : (pieces 44 u.data.toList).map ofB = cutA 44 u :: (if cutF 44 u then (pieces 44 (cutZ 44 u).data.toList).map ofB else []) := by
  rw [pieces_cut, List.map_cons, ← Lib.size_eq]
  unfold cutF cutZ
  by_cases h : nextP 44 u.data.toList < u.size
  · rw [if_pos h, decide_eq_true h, if_pos rfl, if_pos h]; rfl
  · rw [if_neg h, decide_eq_false h, if_neg (by decide)]; rfl
theorem pAt_err {s u : ByteArray} {done : List ByteArray} (h : PAt s u done true) (he : compE (cutA 44 u) ≠ 0) : parseE s = compE (cutA 44 u) ∧ parseV s = [] := by
  obtain ⟨h1, h2⟩ := h
  rw [if_pos rfl, pieces_u] at h2
  have h3 : firstE (piecesS s) = compE (cutA 44 u) := by
    rw [h2, firstE_app _ _ h1]; unfold firstE; rw [if_neg he]
  have h4 : parseE s = compE (cutA 44 u) := by unfold parseE; rw [h3, if_neg he]
  exact ⟨h4, by unfold parseV; rw [h4, if_neg he]⟩
theorem pAt_next {s u : ByteArray} {done : List ByteArray} (h : PAt s u done true) (he : compE (cutA 44 u) = 0) : PAt s (cutZ 44 u) (done ++ [cutA 44 u]) (cutF 44 u) := by
  obtain ⟨h1, h2⟩ := h
  refine ⟨?_, ?_⟩
  · rw [firstE_app _ _ h1]; unfold firstE; rw [if_pos he]; rfl
  · rw [h2, if_pos rfl, pieces_u]; simp
theorem pAt_end {s u : ByteArray} {done : List ByteArray} (h : PAt s u done false) : (done.length ≤ 8 → parseE s = 0 ∧ parseV s = done.map compV) ∧ (8 < done.length → parseE s = 3 ∧ parseV s = []) := by
  obtain ⟨h1, h2⟩ := h
  rw [if_neg (by decide), List.append_nil] at h2
  refine ⟨fun hl => ?_, fun hl => ?_⟩
  · have h3 : parseE s = 0 := by unfold parseE; rw [h2, if_pos h1, if_neg (by omega)]
    exact ⟨h3, by unfold parseV; rw [if_pos h3, h2]⟩
  · have h3 : parseE s = 3 := by unfold parseE; rw [h2, if_pos h1, if_pos hl]
    exact ⟨h3, by unfold parseV; rw [h3]; rfl⟩
theorem cutZ_less {u : ByteArray} (h : cutF 44 u = true) : (cutZ 44 u).size + 1 ≤ u.size := by
  have h1 := of_decide_eq_true h
  unfold cutZ; rw [if_pos h1, dr_size]; omega
theorem compR_ok {p : ByteArray} (h : compE p = 0) : compR p = compV p := by unfold compR; rw [if_pos h]
theorem cutA_nocut (u : ByteArray) : nocut 44 (cutA 44 u).data.toList := nocut_take 44 (by decide) u.data.toList
/-- what Parse returns: a value that owns the components, and the error -/
def ParsePost (s : ByteArray) (w : World) (e : Ending) (w' : World) : Prop :=
  ∃ v, e = .returned (.tuple #[v, .int .i64 (parseE s)]) ∧ w'.ownsRow w.heap.size 143 2 v (parseV s).length (pcells (parseV s)) ∧ Below w.heap.size w w'
set_option maxRecDepth 100000 in
set_option maxHeartbeats 4000000 in
theorem parse_s (s : ByteArray) (w : World) (hs : s.size ≤ 1100000) :
    Calls Tryz.prog 136 #[.string s] w (ParsePost s w) := by
  obtain ⟨m0, hm0⟩ : ∃ m : Bool, m = !(s.toList.isEmpty) := ⟨_, rfl⟩
  have HM := Lib.hid (pAt_start s hm0)
  have hm1 : (!(s.toList.isEmpty)) = m0 := hm0.symm
  clear hm0
  go_enter Tryz.func136, Tryz.ntmps136
  go_wp2
  go_loopw [0, 4, 5] (fun sv lv mv wr => ∃ (u : ByteArray) (done : List ByteArray) (more : Bool), sv = .string u ∧ mv = .bool more ∧ u.size ≤ s.size ∧
      wr.ownsRow w.heap.size 143 2 lv ((done.map compV).take 9).length (pcells ((done.map compV).take 9)) ∧ Below w.heap.size w wr ∧ Hid (PAt s u done more))
    (fun sv _ mv _ => Lib.strSize sv + boolN mv)
  case atStart => exact ⟨s, [], m0, rfl, rfl, Nat.le_refl _, World.ownsRow_nil _ _ _ _, Below.refl _ _, HM⟩
  case round =>
    obtain ⟨u, done, more, rfl, rfl, hu, hown, hbel, HP⟩ := hrel
    obtain ⟨out, hout⟩ : ∃ out, out = (done.map compV).take 9 := ⟨_, rfl⟩
    rw [← hout] at hown
    have hol : min 9 done.length = out.length := by rw [hout, List.length_take, List.length_map]
    have HO := Lib.hid hout; clear hout
    obtain ⟨ao, cap, rfl⟩ := own_slice hown
    cases more
    · by_cases h8 : done.length ≤ 8
      · have HF := Lib.hid ((pAt_end HP.out).1 h8)
        have hd : decide ((8 : Int) < (out.length : Int)) = false := decide_eq_false (by omega)
        have HO2 := Lib.hid (show parseV s = out by rw [HF.out.2, HO.out, List.take_of_length_le (by rw [List.length_map]; omega)])
        go_wp2
        go_ret2
        exact ⟨_, by rw [HF.out.1]; rfl, by rw [HO2.out]; exact hown, hbel⟩
      · have HF := Lib.hid ((pAt_end HP.out).2 (by omega))
        have hd : decide ((8 : Int) < (out.length : Int)) = true := decide_eq_true (by omega)
        go_wp2
        go_ret2
        exact ⟨_, by rw [HF.out.1]; rfl, by rw [HF.out.2]; exact World.ownsRow_nil _ _ _ _, hbel⟩
    · have hz1 := cutA_size 44 u
      have hz2 := cutZ_size 44 u
      have HN := Lib.hid (cutA_nocut u)
      go_wp2_with fail
      refine (cut_s u 44 44 _ (by omega) rfl).mono ?_
      rintro e w1 ⟨rfl, hb1⟩
      have L1 := hbel.trans (hb1.mono hbel.size)
      have O1 := own_below hown hb1
      go_wp2_with fail
      refine (component_s (cutA 44 u) _ (by omega) HN.out).mono ?_
      rintro e w2 ⟨rfl, hb2⟩
      have L2 := L1.trans (hb2.mono L1.size)
      have O2 := own_below O1 hb2
      by_cases hE : compE (cutA 44 u) = 0
      · have HNX := Lib.hid (pAt_next HP.out hE)
        have hR := compR_ok hE
        rw [hE, hR]
        obtain ⟨⟨x, y⟩, hxy⟩ : ∃ p, p = compV (cutA 44 u) := ⟨_, rfl⟩
        rw [← hxy]
        have HXY := Lib.hid hxy
        have HLZ := Lib.hid (fun h => cutZ_less (u := u) h)
        clear hxy hR hE
        have hbx := pbox_new w2 (x, y)
        have hbl := below_new (w := w2) (.cells #[.string x, .string y] 143)
        have O3 := own_below O2 hbl
        have L3 := L2.trans (hbl.mono L2.size)
        obtain ⟨c0, c1⟩ := hbx.cells
        by_cases h9 : done.length ≤ 8
        · have hd : decide ((out.length : Int) ≤ 8) = true := decide_eq_true (by omega)
          have hcells : pcells (out ++ [(x, y)]) = pcells out ++ [.string x, .string y] := pcells_append _ _
          have HON := Lib.hid (show ((done ++ [cutA 44 u]).map compV).take 9 = out ++ [(x, y)] by
            rw [HO.out, HXY.out, List.map_append, List.take_of_length_le (by simp; omega), List.take_of_length_le (by simp; omega)]; rfl)
          go_wp2_with (at_builtin; go_must (refine push_pair _ O3 (.tmp 29) (.tmp 31) _ _ ?_ ?_ ?_ ?_ ?_ ?_ ?_; exact rfl; exact rfl; exact rfl; (rw [World.size_alloc]; exact rfl); omega; exact L3.size; intro v3 w3 hown3 hb3))
          go_roundw
          case rel => exact ⟨cutZ 44 u, done ++ [cutA 44 u], cutF 44 u, rfl, rfl, by omega, by rw [HON.out, hcells, List.length_append]; exact hown3, L3.trans hb3, HNX⟩
          case measure =>
            rw [Lib.strSize_string, Lib.strSize_string]
            cases hc : cutF 44 u
            · simp [boolN]; omega
            · have := HLZ.out hc; simp [boolN]; omega
        · have hd : decide ((out.length : Int) ≤ 8) = false := decide_eq_false (by omega)
          have HON := Lib.hid (show ((done ++ [cutA 44 u]).map compV).take 9 = out by
            rw [HO.out, List.map_append, List.take_append_of_le_length (by simp; omega)])
          go_wp2
          go_roundw
          case rel => exact ⟨cutZ 44 u, done ++ [cutA 44 u], cutF 44 u, rfl, rfl, by omega, by rw [HON.out]; exact O3, L3, HNX⟩
          case measure =>
            rw [Lib.strSize_string, Lib.strSize_string]
            cases hc : cutF 44 u
            · simp [boolN]; omega
            · have := HLZ.out hc; simp [boolN]; omega
      · have HF := Lib.hid (pAt_err HP.out hE)
        have q0 : (compE (cutA 44 u) != 0) = true := by simpa using hE
        clear hE
        generalize compE (cutA 44 u) = k at q0 HF ⊢
        generalize compR (cutA 44 u) = r
        go_wp2
        go_ret2
        exact ⟨_, by rw [HF.out.1]; rfl, by rw [HF.out.2]; exact World.ownsRow_nil _ _ _ _, L2.trans ((below_new _).mono L2.size)⟩
set_option maxRecDepth 100000 in
set_option maxHeartbeats 4000000 in
theorem rparse_s (s : ByteArray) (w : World) (hs : s.size ≤ 1100000) :
    Calls Tryz.prog 141 #[.string s] w (ParsePost s w) := by
  obtain ⟨m0, hm0⟩ : ∃ m : Bool, m = !(s.toList.isEmpty) := ⟨_, rfl⟩
  have HM := Lib.hid (pAt_start s hm0)
  have hm1 : (!(s.toList.isEmpty)) = m0 := hm0.symm
  clear hm0
  go_enter Tryz.func141, Tryz.ntmps141
  go_wp2
  go_loopw [4, 5, 6] (fun lv sv mv wr => ∃ (u : ByteArray) (done : List ByteArray) (more : Bool), sv = .string u ∧ mv = .bool more ∧ u.size ≤ s.size ∧ done.length + (if more then u.size + 1 else 0) ≤ s.size + 1 ∧
      wr.ownsRow w.heap.size 143 2 lv (done.map compV).length (pcells (done.map compV)) ∧ Below w.heap.size w wr ∧ Hid (PAt s u done more))
    (fun _ sv mv _ => Lib.strSize sv + boolN mv)
  case atStart => exact ⟨s, [], m0, rfl, rfl, Nat.le_refl _, by simp; split <;> omega, World.ownsRow_nil _ _ _ _, Below.refl _ _, HM⟩
  case round =>
    obtain ⟨u, done, more, rfl, rfl, hu, hdl, hown, hbel, HP⟩ := hrel
    obtain ⟨out, hout⟩ : ∃ out, out = done.map compV := ⟨_, rfl⟩
    rw [← hout] at hown
    have hol : done.length = out.length := by rw [hout, List.length_map]
    have HO := Lib.hid hout; clear hout
    obtain ⟨ao, cap, rfl⟩ := own_slice hown
    cases more
    · by_cases h8 : done.length ≤ 8
      · have HF := Lib.hid ((pAt_end HP.out).1 h8)
        have hd : decide ((8 : Int) < (out.length : Int)) = false := decide_eq_false (by omega)
        have HO2 := Lib.hid (show parseV s = out by rw [HF.out.2, HO.out])
        go_wp2
        go_ret2
        exact ⟨_, by rw [HF.out.1]; rfl, by rw [HO2.out]; exact hown, hbel⟩
      · have HF := Lib.hid ((pAt_end HP.out).2 (by omega))
        have hd : decide ((8 : Int) < (out.length : Int)) = true := decide_eq_true (by omega)
        go_wp2
        go_ret2
        exact ⟨_, by rw [HF.out.1]; rfl, by rw [HF.out.2]; exact World.ownsRow_nil _ _ _ _, hbel⟩
    · rw [if_pos rfl] at hdl
      have hz1 := cutA_size 44 u
      have hz2 := cutZ_size 44 u
      have hk := nextP_le 44 u.data.toList
      rw [← Lib.size_eq] at hk
      obtain ⟨k, hkk⟩ : ∃ k, nextP 44 u.data.toList = k := ⟨_, rfl⟩
      rw [hkk] at hk
      have he1 : u.extract 0 k = cutA 44 u := by rw [extract_tk, ← hkk]; rfl
      have hF0 : cutF 44 u = decide (k < u.size) := by unfold cutF; rw [hkk]
      have hZ0 : k < u.size → cutZ 44 u = u.extract (k + 1) u.size := fun h => by unfold cutZ; rw [hkk, if_pos h]; exact (Lib.extract_from u (k + 1)).symm
      go_wp2_with fail
      refine (next_s u 44 44 _ (by omega) rfl).mono ?_
      rintro e w1 ⟨rfl, rfl⟩
      rw [hkk]
      clear hkk
      go_wp2_with fail
      refine (rcomponent_s (cutA 44 u) _ (by omega)).mono ?_
      rintro e w2 ⟨rfl, hb2⟩
      have L2 := hbel.trans (hb2.mono hbel.size)
      have O2 := own_below hown hb2
      by_cases hE : compE (cutA 44 u) = 0
      · have HNX := Lib.hid (pAt_next HP.out hE)
        have hR := compR_ok hE
        rw [hE, hR]
        obtain ⟨⟨x, y⟩, hxy⟩ : ∃ p, p = compV (cutA 44 u) := ⟨_, rfl⟩
        rw [← hxy]
        have HXY := Lib.hid hxy
        have HLZ := Lib.hid (fun h => cutZ_less (u := u) h)
        clear hxy hR hE
        have hbx := pbox_new w2 (x, y)
        have hbl := below_new (w := w2) (.cells #[.string x, .string y] 143)
        have O3 := own_below O2 hbl
        have L3 := L2.trans (hbl.mono L2.size)
        obtain ⟨c0, c1⟩ := hbx.cells
        have hcells : pcells (out ++ [(x, y)]) = pcells out ++ [.string x, .string y] := pcells_append _ _
        have HON := Lib.hid (show (done ++ [cutA 44 u]).map compV = out ++ [(x, y)] by rw [HO.out, HXY.out, List.map_append]; rfl)
        by_cases hlt : k < u.size
        · rw [decide_eq_true hlt] at hF0
          have HF := Lib.hid hF0
          have HZ := Lib.hid (hZ0 hlt)
          clear hF0 hZ0
          have hd2 : decide ((k : Int) < (u.size : Int)) = true := decide_eq_true (by omega)
          go_wp2_with (at_builtin; go_must (refine push_pair _ O3 (.tmp 26) (.tmp 28) _ _ ?_ ?_ ?_ ?_ ?_ ?_ ?_; exact rfl; exact rfl; exact rfl; (rw [World.size_alloc]; exact rfl); omega; exact L3.size; intro v3 w3 hown3 hb3))
          go_roundw
          case rel =>
            rw [HF.out] at HNX
            exact ⟨cutZ 44 u, done ++ [cutA 44 u], true, by rw [HZ.out], rfl, by omega, by have := HLZ.out HF.out; simp; omega, by rw [HON.out, hcells, List.length_append]; exact hown3, L3.trans hb3, HNX⟩
          case measure =>
            have h1 := HLZ.out HF.out
            rw [HZ.out] at h1
            rw [Lib.strSize_string, Lib.strSize_string]
            simp [boolN] at h1 ⊢; omega
        · rw [decide_eq_false hlt] at hF0
          have HF := Lib.hid hF0
          clear hF0 hZ0
          have hd2 : decide ((k : Int) < (u.size : Int)) = false := decide_eq_false (by omega)
          go_wp2_with (at_builtin; go_must (refine push_pair _ O3 (.tmp 26) (.tmp 28) _ _ ?_ ?_ ?_ ?_ ?_ ?_ ?_; exact rfl; exact rfl; exact rfl; (rw [World.size_alloc]; exact rfl); omega; exact L3.size; intro v3 w3 hown3 hb3))
          go_roundw
          case rel =>
            rw [HF.out] at HNX
            exact ⟨u, done ++ [cutA 44 u], false, rfl, rfl, by omega, by simp; omega, by rw [HON.out, hcells, List.length_append]; exact hown3, L3.trans hb3, ⟨HNX.out.1, HNX.out.2⟩⟩
          case measure => rw [Lib.strSize_string]; simp [boolN]
      · have HF := Lib.hid (pAt_err HP.out hE)
        have q0 : (compE (cutA 44 u) != 0) = true := by simpa using hE
        clear hE
        generalize compE (cutA 44 u) = k at q0 HF ⊢
        generalize compR (cutA 44 u) = r
        go_wp2
        go_ret2
        exact ⟨_, by rw [HF.out.1]; rfl, by rw [HF.out.2]; exact World.ownsRow_nil _ _ _ _, L2.trans ((below_new _).mono L2.size)⟩
end Nam
end Go.Proofs.YtbkignlbcneddaaGreatDoor
end

section
/-
  Contracts of strings.Builder's WriteByte and WriteString at a builder that the call itself made, with what they keep: every block of pairs. Condition: at most 2^46 bytes.
-/
set_option maxRecDepth 100000
namespace Go.Proofs.YtbkignlbcneddaaGreatDoor
namespace Nam
open Go.RowKit Go.PlainAid
/-- blocks of pairs stand as they stood -/
def TKeep (w w' : World) : Prop := ∀ (X : Nat) (cs : Array Value) (m : Nat × Nat), w.heap[X]? = some (.cells cs 143 m) → w'.heap[X]? = w.heap[X]?
theorem TKeep.refl (w : World) : TKeep w w := fun _ _ _ _ => rfl
theorem TKeep.trans {a b c : World} (h : TKeep a b) (k : TKeep b c) : TKeep a c := fun X cs m e => by
  have h1 := h X cs m e
  rw [k X cs m (by rw [h1]; exact e), h1]
theorem TKeep.below {w w' : World} (h : Below w.heap.size w w') : TKeep w w' := fun X cs m e => by
  refine h.block X ?_
  rcases Nat.lt_or_ge X w.heap.size with h' | h'
  · exact h'
  · simp [Array.getElem?_eq_none h'] at e
theorem TKeep.box {w w' : World} {b : Nat} {p : Pr} (h : TKeep w w') (hb : PBox w b p) : PBox w' b p := by
  unfold PBox at *
  rw [h _ _ _ hb]; exact hb
theorem TKeep.setCell {w wx : World} (h : TKeep w wx) {b : Nat} {cs : Array Value} {m : Nat × Nat} (hb : wx.heap[b]? = some (.cells cs 81 m)) (j : Nat) (v : Value) : TKeep w (wx.setCell ⟨b, j, none⟩ v) := fun X cs2 m2 e => by
  have h1 := h X cs2 m2 e
  have hne : X ≠ b := fun e2 => by
    rw [e2] at h1 e
    rw [h1, e] at hb
    have := Option.some.inj hb
    have h3 : 143 = 81 := by injection this
    exact absurd h3 (by decide)
  rw [Below.heap_setCell _ _ _ _ hne, h1]
theorem TKeep.grown {w wx w' : World} (h : TKeep w wx) {v : Value} {B n : Nat} {xs : List Value} (hown : wx.ownsRow B 5 1 v n xs) (hg : wx.grownBy w' v.ownBlock) : TKeep w w' := fun X cs m e => by
  have h1 := h X cs m e
  have h2 : wx.heap[X]? = some (.cells cs 143 m) := by rw [h1]; exact e
  have hlt : X < wx.heap.size := by
    rcases Nat.lt_or_ge X wx.heap.size with h' | h'
    · exact h'
    · simp [Array.getElem?_eq_none h'] at h2
  rw [hg.block X hlt (fun e2 => Lib.ownBlock_ne hown h2 (by decide) e2.symm), h1]
theorem check_any_k (B b : Nat) (bs : List Value) (w : World) (h : Lib.IsBuilder 81 5 B b bs w) :
    Calls Tryz.prog 106 #[.pointer (some ⟨b, 0, none⟩)] w fun e w' => e = .returned (.tuple #[]) ∧ (Lib.BuilderAt 81 5 B b (.pointer (some ⟨b, 0, none⟩)) bs w' ∧ Below B w w') ∧ TKeep w w' := by
  rcases h with h | h
  · refine (check_fresh b w h.cell0 h.shape h.frozen0).mono ?_
    rintro e w' ⟨rfl, rfl⟩
    refine ⟨rfl, ⟨h.used _, (Below.refl B w).setCell (p := ⟨b, 0, none⟩) h.1 _⟩, ?_⟩
    obtain ⟨hB, v, hbk, _⟩ := h
    exact (TKeep.refl w).setCell hbk 0 _
  · refine (check_used b w h.cell0).mono ?_
    rintro e w' ⟨rfl, rfl⟩
    exact ⟨rfl, ⟨h, Below.refl B _⟩, TKeep.refl _⟩
set_option maxHeartbeats 2000000 in
set_option maxRecDepth 100000 in
theorem writeByte_k (B b : Nat) (bs : List Value) (c : Int) (w : World) (h : Lib.IsBuilder 81 5 B b bs w) (hlen : bs.length + 1 ≤ 140737488355328) (hBw : B ≤ w.heap.size) :
    Calls Tryz.prog 62 #[.pointer (some ⟨b, 0, none⟩), .int .u8 c] w fun e w' => e = .returned .nilIface ∧ (Lib.BuilderAt 81 5 B b (.pointer (some ⟨b, 0, none⟩)) (bs ++ [.int .u8 c]) w' ∧ Below B w w') ∧ TKeep w w' := by
  go_enter Tryz.func62, Tryz.ntmps62
  go_wp2_with (go_at_call 106; refine (check_any_k B b bs _ h).mono ?_)
  rintro e w1 ⟨rfl, ⟨h1, hb1⟩, hk1⟩
  obtain ⟨hB, v, hbk, hown, hne⟩ := h1
  have c1 : w1.cell? ⟨b, 1, none⟩ = some v := by rw [Lib.cell_of_heap hbk]; rfl
  have HZ := hb1.size
  go_wp2_with (at_builtin; refine push_byte_g w1 hown (.tmp 11) (.tmp 13) _ ?_ ?_ ?_ ?_ ?_ ?_ ?_; exact rfl; exact rfl; exact rfl; exact rfl; omega; omega)
  intro v' w2 hown' hgrow
  have hk2 : TKeep w w2 := (hk1.trans (TKeep.below (below_new _))).grown (hown.alloc _) hgrow
  have hlt : b < w1.heap.size := by
    rcases Nat.lt_or_ge b w1.heap.size with h' | h'
    · exact h'
    · simp [Array.getElem?_eq_none h'] at hbk
  have hb2 : w2.heap[b]? = some (.cells #[.pointer (some ⟨b, 0, none⟩), v] 81 (0, 0)) := by
    rw [hgrow.block b (by simp; omega) (fun e => hne e.symm), Lib.alloc_old w1 _ b hlt]
    exact hbk
  have d1 : w2.cell? ⟨b, 1, none⟩ = some v := by rw [Lib.cell_of_heap hb2]; rfl
  have f1 : w2.frozen? ⟨b, 1, none⟩ = false := Lib.frozen_of_heap hb2 1
  obtain ⟨g, cap, rfl⟩ : ∃ g cap, v' = .slice (some ⟨g, 0, none⟩) (bs.length + 1) cap := by
    rcases hown'.2 with ⟨_, h0⟩ | ⟨g, cap, cur, hv, _⟩
    · omega
    · exact ⟨g, cap, hv⟩
  go_wp2
  go_ret
  refine ⟨rfl, ⟨?_, ?_⟩, hk2.setCell hb2 1 _⟩
  · exact Lib.BuilderAt.put (T := 81) (e := 5) hB hb2 (bs' := bs ++ [.int .u8 c]) (by simpa using hown') (by decide)
  · exact ((hb1.alloc (by omega) _).grown hgrow (by simp; omega) (fun k hk => (hown.lt k hk).1)).setCell (p := ⟨b, 1, none⟩) hB _
/-- WriteByte at a builder that holds the bytes l -/
theorem writeByte_t (B b : Nat) (l : List UInt8) (c : UInt8) (x : Int) (w : World) (h : Bld B b l w) (hx : x = (c.toNat : Int)) (hlen : l.length ≤ 100000000000) (hBw : B ≤ w.heap.size) :
    Calls Tryz.prog 62 #[.pointer (some ⟨b, 0, none⟩), .int .u8 x] w fun e w' => e = .returned .nilIface ∧ Bld B b (l ++ [c]) w' ∧ Below B w w' ∧ TKeep w w' := by
  subst hx
  refine (writeByte_k B b (bcells l) c.toNat w h (by rw [bcells_length]; omega) hBw).mono fun e w' h => ⟨h.1, ?_, h.2.1.2, h.2.2⟩
  unfold Bld
  rw [bcells_append]
  exact .inr h.2.1.1
set_option maxHeartbeats 2000000 in
set_option maxRecDepth 100000 in
theorem writeString_k (B b : Nat) (bs : List Value) (s : ByteArray) (w : World) (h : Lib.IsBuilder 81 5 B b bs w) (hlen : bs.length + s.size ≤ 140737488355328) (hBw : B ≤ w.heap.size) :
    Calls Tryz.prog 61 #[.pointer (some ⟨b, 0, none⟩), .string s] w fun e w' => e = .returned (.tuple #[.int .i64 s.size, .nilIface]) ∧ (Lib.BuilderAt 81 5 B b (.pointer (some ⟨b, 0, none⟩)) (bs ++ Lib.strCells s) w' ∧ Below B w w') ∧ TKeep w w' := by
  obtain ⟨i0, hi, hz0, hz1, hz2⟩ := info_parts info5
  go_enter Tryz.func61, Tryz.ntmps61
  go_wp2_with (go_at_call 106; refine (check_any_k B b bs _ h).mono ?_)
  rintro e w1 ⟨rfl, ⟨h1, hb1⟩, hk1⟩
  obtain ⟨hB, v, hbk, hown, hne⟩ := h1
  have c1 : w1.cell? ⟨b, 1, none⟩ = some v := by rw [Lib.cell_of_heap hbk]; rfl
  have HZ := hb1.size
  have hlt : b < w1.heap.size := by
    rcases Nat.lt_or_ge b w1.heap.size with h' | h'
    · exact h'
    · simp [Array.getElem?_eq_none h'] at hbk
  go_wp2_with (at_builtin; refine Lib.wpList_append_own_string w1 ?_ (.tmp 12) (.tmp 13) 79 9 ?_ B 5 i0 Tryz.underlying79 Tryz.underlying9 hi hz0 hz1 hz2 v bs.length bs ?_ hown s ?_ ?_ ?_ ?_ ?_; exact rfl; exact rfl; exact rfl; exact rfl; (unfold maxLen; omega); omega; omega)
  intro v' w2 hown' hgrow hnil
  have hk2 : TKeep w w2 := hk1.grown hown hgrow
  have hb2 : w2.heap[b]? = some (.cells #[.pointer (some ⟨b, 0, none⟩), v] 81 (0, 0)) := by
    rw [hgrow.block b hlt (fun e => hne e.symm)]
    exact hbk
  have d1 : w2.cell? ⟨b, 1, none⟩ = some v := by rw [Lib.cell_of_heap hb2]; rfl
  have f1 : w2.frozen? ⟨b, 1, none⟩ = false := Lib.frozen_of_heap hb2 1
  have hlen' : (bs ++ Lib.strCells s).length = bs.length + s.size := by simp [Lib.strCells_length]
  have hbel : Below B w w2 := hb1.grown hgrow (by omega) (fun k hk => (hown.lt k hk).1)
  have hcase : v' = .slice none 0 0 ∨ ∃ g n cap, v' = .slice (some ⟨g, 0, none⟩) n cap := by
    rcases hown'.2 with ⟨h, h0⟩ | ⟨g, cap, cur, hv, _⟩
    · exact .inl h
    · exact .inr ⟨g, _, cap, hv⟩
  rcases hcase with rfl | ⟨g, n, cap, rfl⟩
  · go_wp2
    go_ret2
    refine ⟨rfl, ⟨?_, hbel.setCell (p := ⟨b, 1, none⟩) hB _⟩, hk2.setCell hb2 1 _⟩
    exact Lib.BuilderAt.put (T := 81) (e := 5) hB hb2 (bs' := bs ++ Lib.strCells s) (by rw [hlen']; exact hown') (by decide)
  · go_wp2
    go_ret2
    refine ⟨rfl, ⟨?_, hbel.setCell (p := ⟨b, 1, none⟩) hB _⟩, hk2.setCell hb2 1 _⟩
    exact Lib.BuilderAt.put (T := 81) (e := 5) hB hb2 (bs' := bs ++ Lib.strCells s) (by rw [hlen']; exact hown') (by decide)
/-- WriteString at a builder that holds the bytes l -/
theorem writeString_t (B b : Nat) (l : List UInt8) (s : ByteArray) (w : World) (h : Bld B b l w) (hlen : l.length + s.size ≤ 100000000000) (hBw : B ≤ w.heap.size) :
    Calls Tryz.prog 61 #[.pointer (some ⟨b, 0, none⟩), .string s] w fun e w' => e = .returned (.tuple #[.int .i64 s.size, .nilIface]) ∧ Bld B b (l ++ s.data.toList) w' ∧ Below B w w' ∧ TKeep w w' := by
  refine (writeString_k B b (bcells l) s w h (by rw [bcells_length]; omega) hBw).mono fun e w' h => ⟨h.1, ?_, h.2.1.2, h.2.2⟩
  unfold Bld
  rw [bcells_append, ← strCells_b]
  exact .inr h.2.1.1
end Nam
end Go.Proofs.YtbkignlbcneddaaGreatDoor
end
