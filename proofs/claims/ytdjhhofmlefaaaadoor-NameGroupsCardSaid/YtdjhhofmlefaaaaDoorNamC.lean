/-
  Plain facts on distinguished names: the case of a text does not matter for its normal form; parents, children, renaming; the order. No condition.
-/
import Derived.Test.YtdjhhofmlefaaaaDoorNamP
import Derived.Test.YtdjhhofmlefaaaaDoorFoldF
set_option linter.unusedVariables false
set_option linter.unusedSimpArgs false
set_option linter.unnecessarySimpa false
namespace Go.Proofs.YtdjhhofmlefaaaaDoor
open Go.PlainAid

/-! ### case -/
theorem lowB_mark (x c : UInt8) (h1 : ¬ (65 ≤ c.toNat ∧ c.toNat ≤ 90)) (h2 : ¬ (97 ≤ c.toNat ∧ c.toNat ≤ 122)) : lowB x = c ↔ x = c := by
  by_cases h : 65 ≤ x.toNat ∧ x.toNat ≤ 90
  · have e : (lowB x).toNat = x.toNat + 32 := by
      have h3 : (32 : UInt8).toNat = 32 := rfl
      unfold lowB; rw [if_pos h, UInt8.toNat_add]; omega
    constructor
    · intro e2; rw [e2] at e; omega
    · intro e2; subst e2; exact absurd h h1
  · have e : lowB x = x := by unfold lowB; rw [if_neg h]
    rw [e]
theorem low_92 (x : UInt8) : lowB x = 92 ↔ x = 92 := lowB_mark x 92 (by decide) (by decide)
theorem pieces_low (c : UInt8) (h1 : ¬ (65 ≤ c.toNat ∧ c.toNat ≤ 90)) (h2 : ¬ (97 ≤ c.toNat ∧ c.toNat ≤ 122)) : ∀ l, pieces c (lowL l) = (pieces c l).map lowL
  | [] => rfl
  | [x] => by
    show pieces c [lowB x] = _
    have e1 : pieces c [lowB x] = if lowB x = c then [] :: pieces c [] else if lowB x = 92 then [[lowB x]] else headOn [lowB x] (pieces c []) := by conv => lhs; unfold pieces
    have e2 : pieces c [x] = if x = c then [] :: pieces c [] else if x = 92 then [[x]] else headOn [x] (pieces c []) := by conv => lhs; unfold pieces
    rw [e1, e2]
    by_cases h : x = c
    · rw [if_pos h, if_pos ((lowB_mark x c h1 h2).2 h)]; rfl
    · rw [if_neg h, if_neg (fun e => h ((lowB_mark x c h1 h2).1 e))]
      by_cases h3 : x = 92
      · rw [if_pos h3, if_pos ((low_92 x).2 h3)]; rfl
      · rw [if_neg h3, if_neg (fun e => h3 ((low_92 x).1 e))]; rfl
  | x :: y :: r => by
    show pieces c (lowB x :: lowB y :: lowL r) = _
    have e1 : pieces c (lowB x :: lowB y :: lowL r) = if lowB x = c then [] :: pieces c (lowL (y :: r)) else if lowB x = 92 then headOn [lowB x, lowB y] (pieces c (lowL r)) else headOn [lowB x] (pieces c (lowL (y :: r))) := by
      conv => lhs; unfold pieces
      rfl
    have e2 : pieces c (x :: y :: r) = if x = c then [] :: pieces c (y :: r) else if x = 92 then headOn [x, y] (pieces c r) else headOn [x] (pieces c (y :: r)) := by conv => lhs; unfold pieces
    have hh : ∀ (a : List UInt8) (ps : List (List UInt8)), headOn (lowL a) (ps.map lowL) = (headOn a ps).map lowL := fun a ps => by
      cases ps with
      | nil => rfl
      | cons p ps => simp [headOn, lowL]
    rw [e1, e2]
    by_cases h : x = c
    · rw [if_pos h, if_pos ((lowB_mark x c h1 h2).2 h), pieces_low c h1 h2 (y :: r)]; rfl
    · rw [if_neg h, if_neg (fun e => h ((lowB_mark x c h1 h2).1 e))]
      by_cases h3 : x = 92
      · rw [if_pos h3, if_pos ((low_92 x).2 h3), pieces_low c h1 h2 r, ← hh]; rfl
      · rw [if_neg h3, if_neg (fun e => h3 ((low_92 x).1 e)), pieces_low c h1 h2 (y :: r), ← hh]; rfl
theorem nextP_low (c : UInt8) (h1 : ¬ (65 ≤ c.toNat ∧ c.toNat ≤ 90)) (h2 : ¬ (97 ≤ c.toNat ∧ c.toNat ≤ 122)) : ∀ l, nextP c (lowL l) = nextP c l
  | [] => rfl
  | [x] => by
    show nextP c [lowB x] = _
    have e : ∀ z, nextP c [z] = if z = c then 0 else if z = 92 then 1 else nextP c [] + 1 := fun z => by conv => lhs; unfold nextP
    rw [e, e]
    by_cases h : x = c
    · rw [if_pos h, if_pos ((lowB_mark x c h1 h2).2 h)]
    · rw [if_neg h, if_neg (fun e => h ((lowB_mark x c h1 h2).1 e))]
      by_cases h3 : x = 92
      · rw [if_pos h3, if_pos ((low_92 x).2 h3)]
      · rw [if_neg h3, if_neg (fun e => h3 ((low_92 x).1 e))]
  | x :: y :: r => by
    show nextP c (lowB x :: lowB y :: lowL r) = _
    have e1 : nextP c (lowB x :: lowB y :: lowL r) = if lowB x = c then 0 else if lowB x = 92 then nextP c (lowL r) + 2 else nextP c (lowL (y :: r)) + 1 := by
      conv => lhs; unfold nextP
      rfl
    have e2 : nextP c (x :: y :: r) = if x = c then 0 else if x = 92 then nextP c r + 2 else nextP c (y :: r) + 1 := by conv => lhs; unfold nextP
    rw [e1, e2, nextP_low c h1 h2 r, nextP_low c h1 h2 (y :: r)]
    by_cases h : x = c
    · rw [if_pos h, if_pos ((lowB_mark x c h1 h2).2 h)]
    · rw [if_neg h, if_neg (fun e => h ((lowB_mark x c h1 h2).1 e))]
      by_cases h3 : x = 92
      · rw [if_pos h3, if_pos ((low_92 x).2 h3)]
      · rw [if_neg h3, if_neg (fun e => h3 ((low_92 x).1 e))]
theorem spec4_low (x : UInt8) : spec4 (lowB x) = spec4 x := by
  rw [Bool.eq_iff_iff, spec4_iff, spec4_iff, lowB_mark x 44 (by decide) (by decide), lowB_mark x 61 (by decide) (by decide), lowB_mark x 43 (by decide) (by decide), low_92]
theorem valP_low : ∀ l, valP (lowL l) = (valP l).map lowL
  | [] => rfl
  | [x] => by
    show valP [lowB x] = _
    have e : ∀ z, valP [z] = if z = 92 then none else if z = 61 ∨ z = 43 then none else (valP []).map (z :: ·) := fun z => by conv => lhs; unfold valP
    have m2 : (lowB x = 61 ∨ lowB x = 43) ↔ (x = 61 ∨ x = 43) := by rw [lowB_mark x 61 (by decide) (by decide), lowB_mark x 43 (by decide) (by decide)]
    rw [e, e]
    by_cases h : x = 92
    · rw [if_pos h, if_pos ((low_92 x).2 h)]; rfl
    · rw [if_neg h, if_neg (fun e => h ((low_92 x).1 e))]
      by_cases h3 : x = 61 ∨ x = 43
      · rw [if_pos h3, if_pos (m2.2 h3)]; rfl
      · rw [if_neg h3, if_neg (fun e => h3 (m2.1 e))]; rfl
  | x :: y :: r => by
    show valP (lowB x :: lowB y :: lowL r) = _
    have e1 : valP (lowB x :: lowB y :: lowL r) = if lowB x = 92 then (if spec4 (lowB y) then (valP (lowL r)).map (lowB y :: ·) else none) else if lowB x = 61 ∨ lowB x = 43 then none else (valP (lowL (y :: r))).map (lowB x :: ·) := by
      conv => lhs; unfold valP
      rfl
    have e2 : valP (x :: y :: r) = if x = 92 then (if spec4 y then (valP r).map (y :: ·) else none) else if x = 61 ∨ x = 43 then none else (valP (y :: r)).map (x :: ·) := by conv => lhs; unfold valP
    have m2 : (lowB x = 61 ∨ lowB x = 43) ↔ (x = 61 ∨ x = 43) := by rw [lowB_mark x 61 (by decide) (by decide), lowB_mark x 43 (by decide) (by decide)]
    rw [e1, e2, valP_low r, valP_low (y :: r)]
    by_cases h : x = 92
    · rw [if_pos h, if_pos ((low_92 x).2 h)]
      by_cases h4 : spec4 y = true
      · rw [if_pos h4, if_pos (by rw [spec4_low]; exact h4)]; cases valP r <;> rfl
      · rw [if_neg h4, if_neg (by rw [spec4_low]; exact h4)]; rfl
    · rw [if_neg h, if_neg (fun e => h ((low_92 x).1 e))]
      by_cases h3 : x = 61 ∨ x = 43
      · rw [if_pos h3, if_pos (m2.2 h3)]; rfl
      · rw [if_neg h3, if_neg (fun e => h3 (m2.1 e))]; cases valP (y :: r) <;> rfl
def lowP (p : Pr) : Pr := (lowS p.1, lowS p.2)
theorem prE_low (p : Pr) : prE (lowP p) = prE p := by unfold prE lowP; rw [nameB_low, cleanB_low]
theorem rawK_low (p : ByteArray) : rawK (lowS p) = lowS (rawK p) := by
  unfold rawK trimS tk lowS
  simp only [data_mk]
  rw [nextP_low 61 (by decide) (by decide), ← trimR_low]
  unfold lowL; rw [List.map_take]
theorem rawV_low (p : ByteArray) : rawV (lowS p) = lowS (rawV p) := by
  unfold rawV trimS dr lowS
  simp only [data_mk]
  rw [nextP_low 61 (by decide) (by decide), ← trimR_low]
  unfold lowL; rw [List.map_drop]
theorem lowS_data (s : ByteArray) : (lowS s).data.toList = lowL s.data.toList := rfl
theorem ofB_low (l : List UInt8) : ofB (lowL l) = lowS (ofB l) := rfl
theorem compE_low (p : ByteArray) : compE (lowS p) = compE p := by
  unfold compE
  rw [lowS_size, lowS_data, nextP_low 61 (by decide) (by decide), rawV_low, lowS_data, valP_low, rawK_low]
  split
  · cases valP (rawV p).data.toList with
    | none => rfl
    | some v => show prE (lowS (rawK p), ofB (lowL v)) = _; exact prE_low (rawK p, ofB v)
  · rfl
theorem compV_low (p : ByteArray) : compV (lowS p) = lowP (compV p) := by
  unfold compV
  rw [rawV_low, lowS_data, valP_low, rawK_low]
  cases valP (rawV p).data.toList with
  | none => rfl
  | some v => rfl
theorem piecesS_low (s : ByteArray) : piecesS (lowS s) = (piecesS s).map lowS := by
  unfold piecesS
  rw [lowS_size, lowS_data, pieces_low 44 (by decide) (by decide)]
  split
  · rfl
  · rw [List.map_map, List.map_map]; rfl
theorem firstE_low : ∀ l, firstE (l.map lowS) = firstE l
  | [] => rfl
  | p :: r => by
    show (if compE (lowS p) = 0 then firstE (r.map lowS) else compE (lowS p)) = _
    rw [compE_low, firstE_low r]; rfl
theorem parseE_low (s : ByteArray) : parseE (lowS s) = parseE s := by
  unfold parseE; rw [piecesS_low, firstE_low, List.length_map]
theorem parseV_low (s : ByteArray) : parseV (lowS s) = (parseV s).map lowP := by
  unfold parseV
  rw [parseE_low]
  split
  · rw [piecesS_low, List.map_map, List.map_map]
    apply List.map_congr_left
    intro p _
    exact compV_low p
  · rfl
theorem fmtC_low (p : Pr) : fmtC (lowP p) = fmtC p := by unfold fmtC lowP; rw [lowS_low, foldS_low]
theorem fmtFirst_low : ∀ l, fmtFirst (l.map lowP) = fmtFirst l
  | [] => rfl
  | p :: r => by
    show (if prE (lowP p) = 0 then fmtFirst (r.map lowP) else prE (lowP p)) = _
    rw [prE_low, fmtFirst_low r]; rfl
theorem fmtE_low (l : List Pr) : fmtE (l.map lowP) = fmtE l := by unfold fmtE; rw [fmtFirst_low, List.length_map]
theorem fmtV_low (l : List Pr) : fmtV (l.map lowP) = fmtV l := by
  unfold fmtV
  rw [fmtE_low, List.map_map]
  split
  · congr 2
    apply List.map_congr_left
    intro p _
    exact fmtC_low p
  · rfl
theorem clean_low (s : ByteArray) : cleanE (lowS s) = cleanE s ∧ cleanV (lowS s) = cleanV s := by
  unfold cleanE cleanV
  rw [parseE_low, parseV_low, fmtE_low, fmtV_low]
  exact ⟨rfl, rfl⟩
theorem clean_again {s : ByteArray} (h : cleanE s = 0) : normB (cleanV s) = true ∧ cleanV (cleanV s) = cleanV s ∧ cleanE (cleanV s) = 0 := by
  rw [cleanE_eq] at h
  have h0 := fmt_parse_ok h
  have hv : cleanV s = fmtV (parseV s) := by unfold cleanV; rw [if_pos h]
  have hn := norm_fmt h0
  rw [hv]
  refine ⟨hn, ?_, ?_⟩
  · unfold cleanV; rw [if_pos (parse_fmt h0).1, (parse_fmt h0).2, (fmt_can h0).2]
  · rw [cleanE_eq]; exact (parse_fmt h0).1
theorem norm_clean (s : ByteArray) : normB s = (decide (cleanE s = 0) && decide (cleanV s = s)) := by
  rw [cleanE_eq]
  unfold normB cleanV
  by_cases h : parseE s = 0
  · rw [if_pos h]
  · simp [h]

/-! ### the family -/
def sufB (m l : List Pr) : Bool := decide (m.length ≤ l.length) && decide (l.drop (l.length - m.length) = m)
def parentB (s : ByteArray) : Bool := !(compsV s).isEmpty
def parentV (s : ByteArray) : ByteArray := if (compsV s).isEmpty then ByteArray.empty else fmtV ((compsV s).drop 1)
def underB (s base : ByteArray) : Bool := normB s && normB base && sufB (compsV base) (compsV s)
def childE (s : ByteArray) (p : Pr) : Int := if normB s then fmtE (p :: compsV s) else 4
def childV (s : ByteArray) (p : Pr) : ByteArray := if normB s then fmtV (p :: compsV s) else ByteArray.empty
def keptV (s base : ByteArray) : List Pr := (compsV s).take ((compsV s).length - (compsV base).length)
def rebE (s a b : ByteArray) : Int := if normB s && normB a && normB b then (if underB s a then fmtE (keptV s a ++ compsV b) else 6) else 4
def rebV (s a b : ByteArray) : ByteArray := if normB s && normB a && normB b then (if underB s a then fmtV (keptV s a ++ compsV b) else ByteArray.empty) else ByteArray.empty

theorem sufB_iff (m l : List Pr) : sufB m l = true ↔ ∃ k, l = k ++ m := by
  unfold sufB
  rw [Bool.and_eq_true, decide_eq_true_eq, decide_eq_true_eq]
  constructor
  · rintro ⟨h1, h2⟩
    exact ⟨l.take (l.length - m.length), by conv => lhs; rw [← List.take_append_drop (l.length - m.length) l, h2]⟩
  · rintro ⟨k, rfl⟩
    refine ⟨by simp, ?_⟩
    rw [List.length_append, Nat.add_sub_cancel, List.drop_left]
theorem norm_empty : normB ByteArray.empty = true ∧ compsV ByteArray.empty = [] := by
  have h : Comps [] := ⟨fun p hp => (by cases hp), by simp, rfl⟩
  have e : fmtV [] = ByteArray.empty := rfl
  rw [← e]; exact h.back
theorem under_iff (s base : ByteArray) : underB s base = true ↔ normB s = true ∧ normB base = true ∧ ∃ k, compsV s = k ++ compsV base := by
  unfold underB; rw [Bool.and_eq_true, Bool.and_eq_true, sufB_iff, and_assoc]
theorem under_refl (a : ByteArray) : underB a a = normB a := by
  rw [Bool.eq_iff_iff, under_iff]
  exact ⟨fun h => h.1, fun h => ⟨h, h, [], rfl⟩⟩
theorem under_root (a : ByteArray) : underB a ByteArray.empty = normB a := by
  rw [Bool.eq_iff_iff, under_iff]
  exact ⟨fun h => h.1, fun h => ⟨h, norm_empty.1, compsV a, by rw [norm_empty.2, List.append_nil]⟩⟩
theorem under_trans {a b c : ByteArray} (h1 : underB a b = true) (h2 : underB b c = true) : underB a c = true := by
  rw [under_iff] at *
  obtain ⟨ha, hb, k, hk⟩ := h1
  obtain ⟨_, hc, m, hm⟩ := h2
  exact ⟨ha, hc, k ++ m, by rw [hk, hm, List.append_assoc]⟩
theorem under_anti {a b : ByteArray} (h1 : underB a b = true) (h2 : underB b a = true) : a = b := by
  rw [under_iff] at *
  obtain ⟨ha, hb, k, hk⟩ := h1
  obtain ⟨_, _, m, hm⟩ := h2
  have hl := congrArg List.length hk
  have hl2 := congrArg List.length hm
  rw [List.length_append] at hl hl2
  have : k = [] := List.length_eq_zero_iff.1 (by omega)
  rw [this, List.nil_append] at hk
  rw [← (comps_norm ha).2, ← (comps_norm hb).2, hk]
theorem parent_norm {s : ByteArray} (h : parentB s = true) : normB s = true ∧ 0 < (compsV s).length := by
  unfold parentB at h
  have h1 : compsV s ≠ [] := by intro e; rw [e] at h; simp at h
  refine ⟨?_, List.length_pos_iff.2 h1⟩
  cases hn : normB s
  · exact absurd (comps_none hn) h1
  · rfl
theorem under_parent {s : ByteArray} (h : parentB s = true) : underB s (parentV s) = true := by
  obtain ⟨hn, hp⟩ := parent_norm h
  have hc := (comps_norm hn).1.drop 1
  have hv : parentV s = fmtV ((compsV s).drop 1) := by unfold parentV; unfold parentB at h; rw [if_neg (by simpa using h)]
  rw [hv, under_iff]
  exact ⟨hn, hc.back.1, (compsV s).take 1, by rw [hc.back.2, List.take_append_drop]⟩
theorem child_ok {s : ByteArray} {p : Pr} (h : childE s p = 0) : normB s = true ∧ normB (childV s p) = true ∧ compsV (childV s p) = canP p :: compsV s := by
  unfold childE at h
  cases hn : normB s
  · rw [hn] at h; simp at h
  · rw [hn, if_pos rfl] at h
    have hv : childV s p = fmtV (p :: compsV s) := by unfold childV; rw [hn]; rfl
    rw [hv]
    refine ⟨rfl, norm_fmt h, ?_⟩
    rw [comps_fmt h, List.map_cons, (comps_norm hn).1.can]
theorem child_back {s : ByteArray} {p : Pr} (h : childE s p = 0) :
    parentB (childV s p) = true ∧ parentV (childV s p) = s ∧ (compsV (childV s p)).length = (compsV s).length + 1 ∧ underB (childV s p) s = true ∧ underB s (childV s p) = false := by
  obtain ⟨hn, hc, hv⟩ := child_ok h
  refine ⟨by unfold parentB; rw [hv]; rfl, ?_, by rw [hv]; rfl, ?_, ?_⟩
  · unfold parentV; rw [hv]
    show fmtV (compsV s) = s
    exact (comps_norm hn).2
  · rw [under_iff]; exact ⟨hc, hn, [canP p], by rw [hv]; rfl⟩
  · rw [Bool.eq_false_iff]
    intro e
    rw [under_iff] at e
    obtain ⟨_, _, k, hk⟩ := e
    have := congrArg List.length hk
    rw [hv, List.length_append, List.length_cons] at this
    omega
theorem reb_ok {s a b : ByteArray} (h : rebE s a b = 0) : normB s = true ∧ normB a = true ∧ normB b = true ∧ compsV s = keptV s a ++ compsV a ∧ normB (rebV s a b) = true ∧ compsV (rebV s a b) = keptV s a ++ compsV b := by
  unfold rebE at h
  by_cases hn : (normB s && normB a && normB b) = true
  · rw [if_pos hn] at h
    by_cases hu : underB s a = true
    · rw [if_pos hu] at h
      have hv : rebV s a b = fmtV (keptV s a ++ compsV b) := by unfold rebV; rw [if_pos hn, if_pos hu]
      simp only [Bool.and_eq_true] at hn
      obtain ⟨_, _, k, hk⟩ := (under_iff _ _).1 hu
      have hkept : keptV s a = k := by unfold keptV; rw [hk, List.length_append, Nat.add_sub_cancel, List.take_left]
      refine ⟨hn.1.1, hn.1.2, hn.2, by rw [hkept]; exact hk, by rw [hv]; exact norm_fmt h, ?_⟩
      have hcan : (keptV s a).map canP = keptV s a := ((comps_norm hn.1.1).1.take _).can
      rw [hv, comps_fmt h, List.map_append, (comps_norm hn.2).1.can, hcan]
    · rw [if_neg hu] at h; simp at h
  · rw [if_neg hn] at h; simp at h
theorem reb_back {s a b : ByteArray} (h : rebE s a b = 0) : rebE (rebV s a b) b a = 0 ∧ rebV (rebV s a b) b a = s ∧ underB (rebV s a b) b = true := by
  obtain ⟨hs, ha, hb, hk, ht, hv⟩ := reb_ok h
  have hu : underB (rebV s a b) b = true := by rw [under_iff]; exact ⟨ht, hb, _, hv⟩
  have hkept : ∀ t, compsV t = keptV s a ++ compsV b → keptV t b = keptV s a := fun t hv => by
    conv => lhs; unfold keptV
    rw [hv, List.length_append, Nat.add_sub_cancel, List.take_left]
  have hkept := hkept _ hv
  have hn : (normB (rebV s a b) && normB b && normB a) = true := by rw [ht, hb, ha]; rfl
  generalize rebV s a b = t at hu hkept hn hv ht ⊢
  refine ⟨?_, ?_, hu⟩
  · unfold rebE; rw [if_pos hn, if_pos hu, hkept, ← hk]; exact (comps_norm hs).1.fmt
  · unfold rebV; rw [if_pos hn, if_pos hu, hkept, ← hk]
    exact (comps_norm hs).2

/-! ### the order -/
structure Ord3 {α : Type} (f : α → α → Int) : Prop where
  range : ∀ a b, f a b = -1 ∨ f a b = 0 ∨ f a b = 1
  anti : ∀ a b, f b a = - f a b
  zero : ∀ a b, f a b = 0 ↔ a = b
  trans : ∀ a b c, f a b ≤ 0 → f b c ≤ 0 → f a c ≤ 0
def cmpP (p q : Pr) : Int := if cmpS p.1 q.1 = 0 then cmpS p.2 q.2 else cmpS p.1 q.1
def cmpL : List Pr → List Pr → Int
  | [], [] => 0
  | [], _ :: _ => -1
  | _ :: _, [] => 1
  | p :: a, q :: b => if cmpP p q = 0 then cmpL a b else cmpP p q
def cmpN (a b : ByteArray) : Int := if normB a then (if normB b then cmpL (compsV a).reverse (compsV b).reverse else -1) else (if normB b then 1 else cmpS a b)
theorem cmpS_ord : Ord3 cmpS :=
  ⟨fun a b => cb_range _ _, fun a b => cb_anti _ _, fun a b => by unfold cmpS; rw [cb_zero]; exact ⟨ba_ext, fun e => by rw [e]⟩, fun a b c h1 h2 => cb_trans _ _ _ h1 h2⟩
theorem cmpP_ord : Ord3 cmpP := by
  have S := cmpS_ord
  refine ⟨fun a b => ?_, fun a b => ?_, fun a b => ?_, fun a b c h1 h2 => ?_⟩
  · unfold cmpP; split
    · exact S.range _ _
    · exact S.range _ _
  · unfold cmpP
    rw [S.anti a.1 b.1, S.anti a.2 b.2]
    by_cases h : cmpS a.1 b.1 = 0
    · rw [if_pos h, if_pos (by omega)]
    · rw [if_neg h, if_neg (by omega)]
  · unfold cmpP
    by_cases h : cmpS a.1 b.1 = 0
    · rw [if_pos h, S.zero]; rw [S.zero] at h
      exact ⟨fun e => Prod.ext h e, fun e => by rw [e]⟩
    · rw [if_neg h]
      exact ⟨fun e => absurd e h, fun e => absurd (by rw [e]; exact (S.zero _ _).2 rfl) h⟩
  · unfold cmpP at *
    by_cases h : cmpS a.1 b.1 = 0
    · rw [if_pos h] at h1
      have e := (S.zero _ _).1 h
      rw [e]
      by_cases g : cmpS b.1 c.1 = 0
      · rw [if_pos g] at h2 ⊢; exact S.trans _ _ _ h1 h2
      · rw [if_neg g] at h2 ⊢; exact h2
    · rw [if_neg h] at h1
      by_cases g : cmpS b.1 c.1 = 0
      · rw [if_pos g] at h2
        have e := (S.zero _ _).1 g
        rw [← e, if_neg h]; exact h1
      · rw [if_neg g] at h2
        have h3 := S.trans _ _ _ h1 h2
        rw [if_neg (fun e => ?_)]
        · exact h3
        · have e2 := (S.zero _ _).1 e
          rw [← e2] at h2 g
          have := S.anti a.1 b.1
          omega
theorem cmpL_range : ∀ a b, cmpL a b = -1 ∨ cmpL a b = 0 ∨ cmpL a b = 1
  | [], [] => by simp [cmpL]
  | [], _ :: _ => by simp [cmpL]
  | _ :: _, [] => by simp [cmpL]
  | p :: a, q :: b => by
    unfold cmpL; split
    · exact cmpL_range a b
    · exact cmpP_ord.range _ _
theorem cmpL_anti : ∀ a b, cmpL b a = - cmpL a b
  | [], [] => by simp [cmpL]
  | [], _ :: _ => by simp [cmpL]
  | _ :: _, [] => by simp [cmpL]
  | p :: a, q :: b => by
    unfold cmpL
    have h := cmpP_ord.anti p q
    by_cases e : cmpP p q = 0
    · rw [if_pos e, if_pos (by omega)]; exact cmpL_anti a b
    · rw [if_neg e, if_neg (by omega)]; exact h
theorem cmpL_zero : ∀ a b, cmpL a b = 0 ↔ a = b
  | [], [] => by simp [cmpL]
  | [], _ :: _ => by simp [cmpL]
  | _ :: _, [] => by simp [cmpL]
  | p :: a, q :: b => by
    unfold cmpL
    by_cases e : cmpP p q = 0
    · rw [if_pos e, cmpL_zero a b]
      have := (cmpP_ord.zero p q).1 e
      rw [this]; simp
    · rw [if_neg e]
      refine ⟨fun h => absurd h e, fun h => ?_⟩
      rw [List.cons.injEq] at h
      exact absurd ((cmpP_ord.zero p q).2 h.1) e
theorem cmpL_trans : ∀ a b c, cmpL a b ≤ 0 → cmpL b c ≤ 0 → cmpL a c ≤ 0
  | [], _, [] => by simp [cmpL]
  | [], _, _ :: _ => by simp [cmpL]
  | _ :: _, [], _ => by simp [cmpL]
  | _ :: _, _ :: _, [] => by simp [cmpL]
  | p :: a, q :: b, r :: c => by
    unfold cmpL
    intro h1 h2
    by_cases e : cmpP p q = 0
    · rw [if_pos e] at h1
      have e1 := (cmpP_ord.zero p q).1 e
      rw [e1]
      by_cases g : cmpP q r = 0
      · rw [if_pos g] at h2 ⊢; exact cmpL_trans a b c h1 h2
      · rw [if_neg g] at h2 ⊢; exact h2
    · rw [if_neg e] at h1
      by_cases g : cmpP q r = 0
      · have e1 := (cmpP_ord.zero q r).1 g
        rw [← e1, if_neg e]; exact h1
      · rw [if_neg g] at h2
        have h3 := cmpP_ord.trans _ _ _ h1 h2
        rw [if_neg (fun e2 => ?_)]
        · exact h3
        · have e3 := (cmpP_ord.zero _ _).1 e2
          rw [← e3] at h2 g
          have := cmpP_ord.anti p q
          omega
/-- what lies between two lists with one beginning has it, too -/
theorem cmpL_between : ∀ (m a b c : List Pr), cmpL (m ++ a) b ≤ 0 → cmpL b (m ++ c) ≤ 0 → ∃ k, b = m ++ k
  | [], _, b, _, _, _ => ⟨b, rfl⟩
  | p :: m, a, [], c, h1, h2 => by simp [cmpL] at h1
  | p :: m, a, q :: b, c, h1, h2 => by
    rw [List.cons_append] at h1 h2
    unfold cmpL at h1 h2
    have han := cmpP_ord.anti p q
    by_cases e : cmpP p q = 0
    · have e1 := (cmpP_ord.zero p q).1 e
      rw [if_pos e] at h1
      rw [if_pos (by omega)] at h2
      obtain ⟨k, hk⟩ := cmpL_between m a b c h1 h2
      exact ⟨k, by rw [e1, hk]; rfl⟩
    · rw [if_neg e] at h1
      rw [if_neg (by omega)] at h2
      omega
theorem cmpL_pre : ∀ (m k : List Pr), k ≠ [] → cmpL m (m ++ k) = -1
  | [], [], h => absurd rfl h
  | [], _ :: _, _ => by simp [cmpL]
  | p :: m, k, h => by
    rw [List.cons_append]
    unfold cmpL
    rw [if_pos ((cmpP_ord.zero p p).2 rfl)]; exact cmpL_pre m k h
theorem comps_inj {a b : ByteArray} (ha : normB a = true) (hb : normB b = true) (h : compsV a = compsV b) : a = b := by
  rw [← (comps_norm ha).2, ← (comps_norm hb).2, h]
theorem cmpN_ord : Ord3 cmpN := by
  have S := cmpS_ord
  refine ⟨fun a b => ?_, fun a b => ?_, fun a b => ?_, fun a b c => ?_⟩
  · unfold cmpN
    cases normB a <;> cases normB b <;> simp
    · exact S.range _ _
    · exact cmpL_range _ _
  · unfold cmpN
    cases normB a <;> cases normB b <;> simp
    · exact S.anti _ _
    · exact cmpL_anti _ _
  · unfold cmpN
    cases ha : normB a <;> cases hb : normB b <;> simp
    · exact S.zero _ _
    · intro e; rw [e, hb] at ha; cases ha
    · intro e; rw [e, hb] at ha; cases ha
    · rw [cmpL_zero]
      exact ⟨fun h => comps_inj ha hb (List.reverse_inj.1 h), fun h => by rw [h]⟩
  · unfold cmpN
    cases normB a <;> cases normB b <;> cases normB c <;> simp
    · exact S.trans _ _ _
    · exact cmpL_trans _ _ _
theorem cmpN_under {a b : ByteArray} (h : a ≠ b) (hu : underB b a = true) : cmpN a b = -1 := by
  obtain ⟨hb, ha, k, hk⟩ := (under_iff _ _).1 hu
  unfold cmpN
  rw [ha, hb, if_pos rfl, if_pos rfl, hk, List.reverse_append]
  refine cmpL_pre _ _ fun e => h ?_
  have : k = [] := by simpa using e
  rw [this, List.nil_append] at hk
  exact comps_inj ha hb hk.symm
theorem cmpN_between {a b c base : ByteArray} (ha : underB a base = true) (hc : underB c base = true) (hb : normB b = true) (h1 : cmpN a b ≤ 0) (h2 : cmpN b c ≤ 0) : underB b base = true := by
  obtain ⟨na, nb, k, hk⟩ := (under_iff _ _).1 ha
  obtain ⟨nc, _, m, hm⟩ := (under_iff _ _).1 hc
  unfold cmpN at h1 h2
  rw [na, hb, if_pos rfl, if_pos rfl, hk, List.reverse_append] at h1
  rw [hb, nc, if_pos rfl, if_pos rfl, hm, List.reverse_append] at h2
  obtain ⟨j, hj⟩ := cmpL_between _ _ _ _ h1 h2
  rw [under_iff]
  refine ⟨hb, nb, j.reverse, ?_⟩
  have := congrArg List.reverse hj
  rw [List.reverse_reverse, List.reverse_append, List.reverse_reverse] at this
  exact this

end Go.Proofs.YtdjhhofmlefaaaaDoor
