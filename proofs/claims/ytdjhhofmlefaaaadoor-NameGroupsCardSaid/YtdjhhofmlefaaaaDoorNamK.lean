/-
  Contracts of name.component and of the specification's component. Condition: at most 1000000000 bytes.
-/
import Derived.Test.YtdjhhofmlefaaaaDoorNamV
set_option linter.unusedVariables false
set_option linter.unusedSimpArgs false
set_option linter.unnecessarySimpa false
namespace Go.Proofs.YtdjhhofmlefaaaaDoor
open Go.RowKit Go.PlainAid

/-- a block that holds one pair -/
def PBox (w : World) (b : Nat) (p : Pr) : Prop := w.heap[b]? = some (.cells #[.string p.1, .string p.2] 36)
theorem PBox.cells {w : World} {b : Nat} {p : Pr} (h : PBox w b p) : w.cell? ⟨b, 0, none⟩ = some (.string p.1) ∧ w.cell? ⟨b, 1, none⟩ = some (.string p.2) := by
  unfold PBox at h
  exact ⟨by rw [Lib.cell_of_heap h]; rfl, by rw [Lib.cell_of_heap h]; rfl⟩
theorem PBox.loose {w : World} {b : Nat} {p : Pr} (h : PBox w b p) : w.frozen? ⟨b, 0, none⟩ = false ∧ w.frozen? ⟨b, 1, none⟩ = false := by
  unfold PBox at h
  exact ⟨Lib.frozen_of_heap h 0, Lib.frozen_of_heap h 1⟩
theorem PBox.lt {w : World} {b : Nat} {p : Pr} (h : PBox w b p) : b < w.heap.size := by
  unfold PBox at h
  rcases Nat.lt_or_ge b w.heap.size with h' | h'
  · exact h'
  · simp [Array.getElem?_eq_none h'] at h
theorem PBox.below {w w' : World} {b : Nat} {p : Pr} (h : PBox w b p) (hb : Below w.heap.size w w') : PBox w' b p := by
  unfold PBox
  rw [hb.block b h.lt]; exact h
theorem pbox_new (w : World) (p : Pr) : PBox (w.alloc (.cells #[.string p.1, .string p.2] 36)) w.heap.size p := heap_alloc_new w _
theorem rawV_cut {p : ByteArray} (h : nextP 61 p.data.toList < p.size) : trimS (cutZ 61 p) = rawV p := by unfold rawV cutZ; rw [if_pos h]
theorem rawV_nocut {p : ByteArray} (h : nocut 44 p.data.toList) (hf : nextP 61 p.data.toList < p.size) : nocut 44 (rawV p).data.toList := by
  have h2 := nocut_drop 44 61 (by decide) (by decide) p.data.toList h (by rw [← Lib.size_eq]; exact hf)
  exact nocut_trim 44 (by decide) _ h2
theorem compE_none {p : ByteArray} (hf : nextP 61 p.data.toList < p.size) (hv : valP (rawV p).data.toList = none) : compE p = 4 ∧ compR p = nilPr := by
  have : compE p = 4 := by unfold compE; rw [if_pos hf, hv]
  exact ⟨this, by unfold compR; rw [this]; rfl⟩
theorem compE_far {p : ByteArray} (hf : ¬ nextP 61 p.data.toList < p.size) : compE p = 4 ∧ compR p = nilPr := by
  have : compE p = 4 := by unfold compE; rw [if_neg hf]
  exact ⟨this, by unfold compR; rw [this]; rfl⟩
theorem compE_some {p : ByteArray} {v : List UInt8} (hf : nextP 61 p.data.toList < p.size) (hv : valP (rawV p).data.toList = some v) :
    compE p = prE (rawK p, ofB v) ∧ compR p = if prE (rawK p, ofB v) = 0 then (rawK p, ofB v) else nilPr := by
  have h1 : compE p = prE (rawK p, ofB v) := by unfold compE; rw [if_pos hf, hv]
  have h2 : compV p = (rawK p, ofB v) := by unfold compV; rw [hv]; rfl
  exact ⟨h1, by unfold compR; rw [h1, h2]⟩
theorem cutZ_size (c : UInt8) (s : ByteArray) : (cutZ c s).size ≤ s.size := by
  unfold cutZ; split
  · rw [dr_size]; omega
  · show 0 ≤ _; omega
theorem cutA_size (c : UInt8) (s : ByteArray) : (cutA c s).size ≤ s.size := by
  unfold cutA tk; rw [Lib.size_mk, List.length_take, Lib.size_eq]; omega
theorem valP_len : ∀ (l v : List UInt8), valP l = some v → v.length ≤ l.length
  | [], v, h => by unfold valP at h; cases h; simp
  | [x], v, h => by
    unfold valP at h
    by_cases h1 : x = 92
    · rw [if_pos h1] at h; cases h
    · rw [if_neg h1] at h
      split at h
      · cases h
      · cases h; simp
  | x :: y :: r, v, h => by
    unfold valP at h
    by_cases h1 : x = 92
    · rw [if_pos h1] at h
      simp only [] at h
      split at h
      · obtain ⟨u, hu, rfl⟩ := Option.map_eq_some_iff.1 h
        have := valP_len r u hu
        simp; omega
      · cases h
    · rw [if_neg h1] at h
      split at h
      · cases h
      · obtain ⟨u, hu, rfl⟩ := Option.map_eq_some_iff.1 h
        have := valP_len (y :: r) u hu
        simp at this ⊢; omega
theorem compR_size (p : ByteArray) : (compR p).1.size ≤ p.size ∧ (compR p).2.size ≤ p.size := by
  unfold compR
  split
  · unfold compV rawK
    refine ⟨Nat.le_trans (trimS_size _) (cutA_size 61 p), ?_⟩
    rw [ofB_size]
    cases e : valP (rawV p).data.toList with
    | none => simp
    | some v =>
      have h1 := valP_len _ _ e
      rw [← Lib.size_eq] at h1
      have h2 : (rawV p).size ≤ p.size := by unfold rawV; refine Nat.le_trans (trimS_size _) ?_; rw [dr_size]; omega
      simp; omega
  · exact ⟨Nat.zero_le _, Nat.zero_le _⟩

theorem PBox.alloc {w : World} {b : Nat} {p : Pr} (h : PBox w b p) (o : Obj) : PBox (w.alloc o) b p := h.below ((Below.refl _ w).alloc (Nat.le_refl _) o)
theorem below_next {w wx w' : World} (h : Below w.heap.size w wx) (hb : Below wx.heap.size wx w') : Below w.heap.size w w' := h.trans (hb.mono h.size)
theorem below_set2 {w wx : World} (h : Below w.heap.size w wx) (a b : Value) : Below w.heap.size w ((wx.setCell ⟨w.heap.size, 0, none⟩ a).setCell ⟨w.heap.size, 1, none⟩ b) :=
  (h.setCell (p := ⟨w.heap.size, 0, none⟩) (Nat.le_refl _) a).setCell (p := ⟨w.heap.size, 1, none⟩) (Nat.le_refl _) b
theorem below_new {w : World} (o : Obj) : Below w.heap.size w (w.alloc o) := (Below.refl _ w).alloc (Nat.le_refl _) o

set_option maxRecDepth 100000 in
set_option maxHeartbeats 4000000 in
theorem component_s (p : ByteArray) (w : World) (hp : p.size ≤ 1000000000) (hn : nocut 44 p.data.toList) :
    Calls Tryd.prog 37 #[.string p] w fun e w' => e = .returned (.tuple #[.agg #[.string (compR p).1, .string (compR p).2], .int .i64 (compE p)]) ∧ Below w.heap.size w w' := by
  have hz0 := cutA_size 61 p
  have hz1 := trimS_size (cutA 61 p)
  have hz2 := cutZ_size 61 p
  have hz3 := trimS_size (cutZ 61 p)
  by_cases hf : nextP 61 p.data.toList < p.size
  · have HF := Lib.hid (show cutF 61 p = true by unfold cutF; exact decide_eq_true hf)
    have HQ := Lib.hid (show valQ (trimS (cutZ 61 p)).data.toList = valP (rawV p).data.toList by rw [rawV_cut hf]; exact valQ_valP _ (rawV_nocut hn hf))
    cases hv : valP (rawV p).data.toList with
    | none =>
      have HE := Lib.hid (compE_none hf hv)
      rw [hv] at HQ
      clear hv hf hn
      go_enter Tryd.func37, Tryd.ntmps37
      go_wp2_with fail
      refine (cut_s p 61 61 _ hp rfl).mono ?_
      rintro e w1 ⟨rfl, hb1⟩
      rw [HF.out]
      have B1 := (pbox_new w nilPr).below hb1
      have L1 := below_next (below_new _) hb1
      go_wp2_with fail
      refine (trim_s (cutZ 61 p) _ (by omega)).mono ?_
      rintro e w2 ⟨rfl, hb2⟩
      have B2 := B1.below hb2
      have L2 := below_next L1 hb2
      go_wp2_with fail
      refine (unescaped_s (trimS (cutZ 61 p)) _ (by omega)).mono ?_
      rintro e w3 ⟨rfl, hb3⟩
      rw [HQ.out]
      have B3 := B2.below hb3
      have L3 := below_next L2 hb3
      obtain ⟨c0, c1⟩ := B3.cells
      obtain ⟨f0, f1⟩ := B3.loose
      go_wp2
      refine bodyPost_ret (v := .tuple #[.agg #[.string ⟨#[]⟩, .string ⟨#[]⟩], .int .i64 4]) (by simp [results, Tryd.results37, go_sem, c0, c1, f0, f1]) rfl ⟨by rw [HE.out.1, HE.out.2]; rfl, ?_⟩
      exact below_set2 L3 _ _
    | some v =>
      obtain ⟨he, hr⟩ := compE_some hf hv
      have hvl := valP_len _ _ hv
      have hvs : (ofB v).size ≤ 1000000000 := by
        rw [ofB_size]
        rw [← Lib.size_eq] at hvl
        have h2 : (rawV p).size ≤ p.size := by unfold rawV; refine Nat.le_trans (trimS_size _) ?_; rw [dr_size]; omega
        omega
      have HE := Lib.hid (show compE p = prE (trimS (cutA 61 p), ofB v) from he)
      have HR := Lib.hid (show compR p = if prE (trimS (cutA 61 p), ofB v) = 0 then (trimS (cutA 61 p), ofB v) else nilPr from hr)
      rw [hv] at HQ
      clear hv hf hn he hr hvl
      go_enter Tryd.func37, Tryd.ntmps37
      go_wp2_with fail
      refine (cut_s p 61 61 _ hp rfl).mono ?_
      rintro e w1 ⟨rfl, hb1⟩
      rw [HF.out]
      have B1 := (pbox_new w nilPr).below hb1
      have L1 := below_next (below_new _) hb1
      go_wp2_with fail
      refine (trim_s (cutZ 61 p) _ (by omega)).mono ?_
      rintro e w2 ⟨rfl, hb2⟩
      have B2 := B1.below hb2
      have L2 := below_next L1 hb2
      go_wp2_with fail
      refine (unescaped_s (trimS (cutZ 61 p)) _ (by omega)).mono ?_
      rintro e w3 ⟨rfl, hb3⟩
      rw [HQ.out]
      have B3 := B2.below hb3
      have L3 := below_next L2 hb3
      go_wp2_with fail
      refine (trim_s (cutA 61 p) _ (by omega)).mono ?_
      rintro e w4 ⟨rfl, hb4⟩
      have B4 := B3.below hb4
      have L4 := below_next L3 hb4
      go_wp2_with fail
      refine (check_s (trimS (cutA 61 p), ofB v) _ (by simp only []; omega) hvs).mono ?_
      rintro e w5 ⟨rfl, hb5⟩
      have B5 := (B4.alloc _).below hb5
      have L5 := below_next (below_next L4 (below_new _)) hb5
      have D5 := (pbox_new w4 (trimS (cutA 61 p), ofB v)).below hb5
      obtain ⟨c0, c1⟩ := B5.cells
      obtain ⟨f0, f1⟩ := B5.loose
      obtain ⟨d0, d1⟩ := D5.cells
      generalize hk : prE (trimS (cutA 61 p), ofB v) = k at HE HR ⊢
      by_cases h0 : k = 0
      · have q0 : (k != 0) = false := by rw [h0]; rfl
        rw [if_pos h0] at HR
        have HE2 := Lib.hid (show compE p = 0 by rw [HE.out, h0])
        clear h0 hk
        go_wp2
        refine bodyPost_ret (v := .tuple #[.agg #[.string (trimS (cutA 61 p)), .string (ofB v)], .int .i64 0]) (by simp [results, Tryd.results37, go_sem, c0, c1, f0, f1]) rfl ⟨by rw [HE2.out, HR.out], ?_⟩
        exact below_set2 L5 _ _
      · have q0 : (k != 0) = true := by simpa using h0
        rw [if_neg h0] at HR
        clear h0 hk
        go_wp2
        refine bodyPost_ret (v := .tuple #[.agg #[.string ⟨#[]⟩, .string ⟨#[]⟩], .int .i64 k]) (by simp [results, Tryd.results37, go_sem, c0, c1, f0, f1]) rfl ⟨by rw [HE.out, HR.out]; rfl, ?_⟩
        exact below_set2 L5 _ _
  · have HF := Lib.hid (show cutF 61 p = false by unfold cutF; exact decide_eq_false hf)
    have HE := Lib.hid (compE_far hf)
    go_enter Tryd.func37, Tryd.ntmps37
    go_wp2_with fail
    refine (cut_s p 61 61 _ hp rfl).mono ?_
    rintro e w1 ⟨rfl, hb1⟩
    rw [HF.out]
    have B1 := (pbox_new w nilPr).below hb1
    have L1 := below_next (below_new _) hb1
    obtain ⟨c0, c1⟩ := B1.cells
    obtain ⟨f0, f1⟩ := B1.loose
    go_wp2
    refine bodyPost_ret (v := .tuple #[.agg #[.string ⟨#[]⟩, .string ⟨#[]⟩], .int .i64 4]) (by simp [results, Tryd.results37, go_sem, c0, c1, f0, f1]) rfl ⟨by rw [HE.out.1, HE.out.2]; rfl, ?_⟩
    exact below_set2 L1 _ _

set_option maxRecDepth 100000 in
set_option maxHeartbeats 4000000 in
theorem rcomponent_s (p : ByteArray) (w : World) (hp : p.size ≤ 1000000000) :
    Calls Tryd.prog 39 #[.string p] w fun e w' => e = .returned (.tuple #[.agg #[.string (compR p).1, .string (compR p).2], .int .i64 (compE p)]) ∧ Below w.heap.size w w' := by
  have hk := nextP_le 61 p.data.toList
  rw [← Lib.size_eq] at hk
  obtain ⟨k, hkk⟩ : ∃ k, nextP 61 p.data.toList = k := ⟨_, rfl⟩
  rw [hkk] at hk
  by_cases hf : k < p.size
  · have hd : decide ((p.size : Int) ≤ (k : Int)) = false := decide_eq_false (by omega)
    have he1 : p.extract (k + 1) p.size = dr p (k + 1) := Lib.extract_from p (k + 1)
    have he2 : p.extract 0 k = tk p k := extract_tk p k
    have hz1 := dr_size p (k + 1)
    have hz2 := trimS_size (dr p (k + 1))
    have hz3 := tk_size p k (by omega)
    have hz4 := trimS_size (tk p k)
    have hrv : rawV p = trimS (dr p (k + 1)) := by unfold rawV; rw [hkk]
    have hrk : rawK p = trimS (tk p k) := by unfold rawK; rw [hkk]
    have hf2 : nextP 61 p.data.toList < p.size := by rw [hkk]; exact hf
    cases hv : valP (rawV p).data.toList with
    | none =>
      have HE := Lib.hid (compE_none hf2 hv)
      rw [hrv] at hv
      have HQ := Lib.hid hv
      clear hv hrv hrk hf2
      go_enter Tryd.func39, Tryd.ntmps39
      go_wp2_with fail
      refine (next_s p 61 61 _ hp rfl).mono ?_
      rintro e w1 ⟨rfl, rfl⟩
      rw [hkk]
      have B1 := pbox_new w nilPr
      have L1 := below_new (w := w) (.cells #[.string ⟨#[]⟩, .string ⟨#[]⟩] 36)
      clear hkk
      go_wp2_with fail
      refine (rTrim_s (dr p (k + 1)) _ (by omega)).mono ?_
      rintro e w2 ⟨rfl, rfl⟩
      go_wp2_with fail
      refine (value_s (trimS (dr p (k + 1))) _ (by omega)).mono ?_
      rintro e w3 ⟨rfl, hb3⟩
      rw [HQ.out]
      have B3 := B1.below hb3
      have L3 := below_next L1 hb3
      obtain ⟨c0, c1⟩ := B3.cells
      obtain ⟨f0, f1⟩ := B3.loose
      go_wp2
      refine bodyPost_ret (v := .tuple #[.agg #[.string ⟨#[]⟩, .string ⟨#[]⟩], .int .i64 4]) (by simp [results, Tryd.results39, go_sem, c0, c1, f0, f1]) rfl ⟨by rw [HE.out.1, HE.out.2]; rfl, ?_⟩
      exact below_set2 L3 _ _
    | some v =>
      obtain ⟨he, hr⟩ := compE_some hf2 hv
      have hvl := valP_len _ _ hv
      have hvs : (ofB v).size ≤ 1000000000 := by
        rw [ofB_size]
        rw [← Lib.size_eq, hrv] at hvl
        omega
      rw [hrk] at he hr
      have HE := Lib.hid he
      have HR := Lib.hid hr
      rw [hrv] at hv
      have HQ := Lib.hid hv
      clear hv hrv hrk hf2 he hr hvl
      go_enter Tryd.func39, Tryd.ntmps39
      go_wp2_with fail
      refine (next_s p 61 61 _ hp rfl).mono ?_
      rintro e w1 ⟨rfl, rfl⟩
      rw [hkk]
      have B1 := pbox_new w nilPr
      have L1 := below_new (w := w) (.cells #[.string ⟨#[]⟩, .string ⟨#[]⟩] 36)
      clear hkk
      go_wp2_with fail
      refine (rTrim_s (dr p (k + 1)) _ (by omega)).mono ?_
      rintro e w2 ⟨rfl, rfl⟩
      go_wp2_with fail
      refine (value_s (trimS (dr p (k + 1))) _ (by omega)).mono ?_
      rintro e w3 ⟨rfl, hb3⟩
      rw [HQ.out, show optB (some v) = ofB v from rfl]
      have B3 := B1.below hb3
      have L3 := below_next L1 hb3
      go_wp2_with fail
      refine (rTrim_s (tk p k) _ (by omega)).mono ?_
      rintro e w4 ⟨rfl, rfl⟩
      have B4 := B3.alloc (.cells #[.string (trimS (tk p k)), .string (ofB v)] 36)
      have D4 := pbox_new w3 (trimS (tk p k), ofB v)
      have L4 := below_next L3 (below_new (.cells #[.string (trimS (tk p k)), .string (ofB v)] 36))
      obtain ⟨c0, c1⟩ := B4.cells
      obtain ⟨f0, f1⟩ := B4.loose
      obtain ⟨d0, d1⟩ := D4.cells
      cases n1 : nameB (trimS (tk p k))
      · have hp1 : prE (trimS (tk p k), ofB v) = 5 := by unfold prE; rw [if_pos n1]
        rw [hp1] at HE HR
        rw [if_neg (by decide)] at HR
        go_wp2_with (go_at_call 46; refine (rName_s (trimS (tk p k)) _ (by omega)).mono ?_; rintro e w' ⟨rfl, rfl⟩; rw [n1])
        refine bodyPost_ret (v := .tuple #[.agg #[.string ⟨#[]⟩, .string ⟨#[]⟩], .int .i64 5]) (by simp [results, Tryd.results39, go_sem, c0, c1, f0, f1]) rfl ⟨by rw [HE.out, HR.out]; rfl, ?_⟩
        exact below_set2 L4 _ _
      · cases n2 : cleanB (ofB v)
        · have hp1 : prE (trimS (tk p k), ofB v) = 8 := by unfold prE; simp only []; rw [if_neg (by rw [n1]; decide), if_pos n2]
          rw [hp1] at HE HR
          rw [if_neg (by decide)] at HR
          go_wp2_with (first
            | (go_at_call 46; refine (rName_s (trimS (tk p k)) _ (by omega)).mono ?_; rintro e w' ⟨rfl, rfl⟩; rw [n1])
            | (go_at_call 47; refine (rClean_s (ofB v) _ hvs).mono ?_; rintro e w' ⟨rfl, rfl⟩; rw [n2]))
          refine bodyPost_ret (v := .tuple #[.agg #[.string ⟨#[]⟩, .string ⟨#[]⟩], .int .i64 8]) (by simp [results, Tryd.results39, go_sem, c0, c1, f0, f1]) rfl ⟨by rw [HE.out, HR.out]; rfl, ?_⟩
          exact below_set2 L4 _ _
        · have hp1 : prE (trimS (tk p k), ofB v) = 0 := by unfold prE; simp only []; rw [if_neg (by rw [n1]; decide), if_neg (by rw [n2]; decide)]
          rw [hp1] at HE HR
          rw [if_pos rfl] at HR
          go_wp2_with (first
            | (go_at_call 46; refine (rName_s (trimS (tk p k)) _ (by omega)).mono ?_; rintro e w' ⟨rfl, rfl⟩; rw [n1])
            | (go_at_call 47; refine (rClean_s (ofB v) _ hvs).mono ?_; rintro e w' ⟨rfl, rfl⟩; rw [n2]))
          refine bodyPost_ret (v := .tuple #[.agg #[.string (trimS (tk p k)), .string (ofB v)], .int .i64 0]) (by simp [results, Tryd.results39, go_sem, c0, c1, f0, f1]) rfl ⟨by rw [HE.out, HR.out], ?_⟩
          exact below_set2 L4 _ _
  · have hd : decide ((p.size : Int) ≤ (k : Int)) = true := decide_eq_true (by omega)
    have HE := Lib.hid (compE_far (show ¬ nextP 61 p.data.toList < p.size by rw [hkk]; exact hf))
    go_enter Tryd.func39, Tryd.ntmps39
    go_wp2_with fail
    refine (next_s p 61 61 _ hp rfl).mono ?_
    rintro e w1 ⟨rfl, rfl⟩
    rw [hkk]
    have B1 := pbox_new w nilPr
    have L1 := below_new (w := w) (.cells #[.string ⟨#[]⟩, .string ⟨#[]⟩] 36)
    clear hkk
    go_wp2
    refine bodyPost_ret (v := .tuple #[.agg #[.string ⟨#[]⟩, .string ⟨#[]⟩], .int .i64 4]) (by simp [results, Tryd.results39, go_sem]) rfl ⟨by rw [HE.out.1, HE.out.2]; rfl, ?_⟩
    exact L1

end Go.Proofs.YtdjhhofmlefaaaaDoor
