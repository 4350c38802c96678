/-
  Plain functions for windows of time: what a list of windows covers, merging windows that are sorted by From, and that two least lists which cover the same instants are the same list. Nothing of the program stands here. No condition.
-/
import Derived.PlainAid
set_option maxRecDepth 100000
set_option linter.unusedVariables false
set_option linter.unusedSimpArgs false
set_option linter.unnecessarySimpa false
namespace Go.Proofs.Yteoaekjhicphlaa

abbrev Wn := Int × Int
def cov (l : List Wn) (x : Int) : Prop := ∃ w ∈ l, w.1 ≤ x ∧ x < w.2
def Full (l : List Wn) : Prop := ∀ w ∈ l, w.1 < w.2
def Asc (l : List Wn) : Prop := l.Pairwise fun a b => a.1 ≤ b.1
def Norm (l : List Wn) : Prop := Full l ∧ l.Pairwise fun a b => a.2 < b.1
/-- the next window, behind the windows so far -/
def putW (u : List Wn) (w : Wn) : List Wn := match u.getLast? with
  | none => [w]
  | some x => if x.2 < w.1 then u ++ [w] else u.dropLast ++ [(x.1, max x.2 w.2)]
def mergeW (l : List Wn) : List Wn := l.foldl putW []
/-- a window among windows sorted by From, behind those with the same From -/
def insW (l : List Wn) (w : Wn) : List Wn := l.takeWhile (fun v => decide (v.1 ≤ w.1)) ++ w :: l.dropWhile (fun v => decide (v.1 ≤ w.1))
def allW (l : List Wn) : List Wn := l.foldl (fun a w => if w.1 < w.2 then insW a w else a) []
def unionW (l : List Wn) : List Wn := mergeW (allW l)

theorem cov_nil (x : Int) : ¬ cov [] x := by rintro ⟨w, h, _⟩; cases h
theorem cov_append (l m : List Wn) (x : Int) : cov (l ++ m) x ↔ cov l x ∨ cov m x := by
  unfold cov
  constructor
  · rintro ⟨w, h, k⟩
    rcases List.mem_append.1 h with h | h
    · exact .inl ⟨w, h, k⟩
    · exact .inr ⟨w, h, k⟩
  · rintro (⟨w, h, k⟩ | ⟨w, h, k⟩)
    · exact ⟨w, List.mem_append.2 (.inl h), k⟩
    · exact ⟨w, List.mem_append.2 (.inr h), k⟩
theorem cov_one (w : Wn) (x : Int) : cov [w] x ↔ w.1 ≤ x ∧ x < w.2 := by
  unfold cov
  constructor
  · rintro ⟨v, h, k⟩
    have : v = w := by simpa using h
    subst this; exact k
  · intro k; exact ⟨w, by simp, k⟩
theorem cov_cons (w : Wn) (l : List Wn) (x : Int) : cov (w :: l) x ↔ (w.1 ≤ x ∧ x < w.2) ∨ cov l x := by
  rw [show w :: l = [w] ++ l from rfl, cov_append, cov_one]
theorem put_nil (w : Wn) : putW [] w = [w] := rfl
theorem put_snoc (d : List Wn) (x w : Wn) : putW (d ++ [x]) w = if x.2 < w.1 then d ++ [x] ++ [w] else d ++ [(x.1, max x.2 w.2)] := by
  unfold putW
  rw [List.getLast?_concat]
  dsimp only
  rw [List.dropLast_concat]
theorem put_ok (u : List Wn) (w : Wn) (hn : Norm u) (hw : w.1 < w.2) (hf : ∀ x ∈ u, x.1 ≤ w.1) :
    Norm (putW u w) ∧ (∀ x, cov (putW u w) x ↔ cov u x ∨ cov [w] x) ∧ (∀ x ∈ putW u w, x.1 ≤ w.1) := by
  have hu : u = [] ∨ ∃ d x, u = d ++ [x] := by
    rcases List.eq_nil_or_concat u with h | ⟨d, x, h⟩
    · exact .inl h
    · exact .inr ⟨d, x, by rw [h, List.concat_eq_append]⟩
  rcases hu with rfl | ⟨d, x, rfl⟩
  · refine ⟨⟨fun v hv => ?_, List.pairwise_singleton _ _⟩, fun x => ?_, fun v hv => ?_⟩
    · have : v = w := by simpa [put_nil] using hv
      rw [this]; exact hw
    · rw [put_nil]; exact ⟨.inr, fun h => h.elim (fun h => absurd h (cov_nil x)) id⟩
    · have : v = w := by simpa [put_nil] using hv
      rw [this]; exact Int.le_refl _
  · rw [put_snoc]
    obtain ⟨hF, hP⟩ := hn
    rw [List.pairwise_append] at hP
    obtain ⟨hP1, _, hP3⟩ := hP
    have hx1 : x.1 < x.2 := hF x (by simp)
    have hx2 : x.1 ≤ w.1 := hf x (by simp)
    have hd3 : ∀ a ∈ d, a.2 < x.1 := fun a ha => hP3 a ha x (by simp)
    split
    · rename_i hlt
      refine ⟨⟨fun v hv => ?_, ?_⟩, fun y => cov_append _ _ y, fun v hv => ?_⟩
      · rcases List.mem_append.1 hv with h | h
        · exact hF v h
        · have : v = w := by simpa using h
          rw [this]; exact hw
      · rw [List.pairwise_append]
        refine ⟨List.pairwise_append.2 ⟨hP1, List.pairwise_singleton _ _, hP3⟩, List.pairwise_singleton _ _, fun a ha b hb => ?_⟩
        have : b = w := by simpa using hb
        subst this
        rcases List.mem_append.1 ha with h | h
        · have := hd3 a h; omega
        · have : a = x := by simpa using h
          rw [this]; exact hlt
      · rcases List.mem_append.1 hv with h | h
        · exact hf v h
        · have : v = w := by simpa using h
          rw [this]; exact Int.le_refl _
    · rename_i hge
      refine ⟨⟨fun v hv => ?_, ?_⟩, fun y => ?_, fun v hv => ?_⟩
      · rcases List.mem_append.1 hv with h | h
        · exact hF v (List.mem_append.2 (.inl h))
        · have : v = (x.1, max x.2 w.2) := by simpa using h
          rw [this]; show x.1 < max x.2 w.2; omega
      · rw [List.pairwise_append]
        refine ⟨hP1, List.pairwise_singleton _ _, fun a ha b hb => ?_⟩
        have : b = (x.1, max x.2 w.2) := by simpa using hb
        rw [this]; exact hd3 a ha
      · rw [cov_append, cov_append, cov_one, cov_one, cov_one]
        show cov d y ∨ (x.1 ≤ y ∧ y < max x.2 w.2) ↔ _
        constructor
        · rintro (h | ⟨h1, h2⟩)
          · exact .inl (.inl h)
          · by_cases h3 : y < x.2
            · exact .inl (.inr ⟨h1, h3⟩)
            · exact .inr ⟨by omega, by omega⟩
        · rintro ((h | ⟨h1, h2⟩) | ⟨h1, h2⟩)
          · exact .inl h
          · exact .inr ⟨h1, by omega⟩
          · exact .inr ⟨by omega, by omega⟩
      · rcases List.mem_append.1 hv with h | h
        · exact hf v (List.mem_append.2 (.inl h))
        · have : v = (x.1, max x.2 w.2) := by simpa using h
          rw [this]; exact hx2
theorem fold_put : ∀ (r u : List Wn), Norm u → Full r → Asc r → (∀ x ∈ u, ∀ w ∈ r, x.1 ≤ w.1) → Norm (r.foldl putW u) ∧ ∀ y, cov (r.foldl putW u) y ↔ cov u y ∨ cov r y
  | [], u, hn, _, _, _ => ⟨hn, fun y => ⟨.inl, fun h => h.elim id fun h => absurd h (cov_nil y)⟩⟩
  | w :: r, u, hn, hF, hA, hf => by
    obtain ⟨h1, h2, h3⟩ := put_ok u w hn (hF w (by simp)) (fun x hx => hf x hx w (by simp))
    have hA' := List.pairwise_cons.1 hA
    obtain ⟨k1, k2⟩ := fold_put r (putW u w) h1 (fun v hv => hF v (by simp [hv])) hA'.2 (fun x hx v hv => by
      have a1 := h3 x hx
      have a2 := hA'.1 v hv
      omega)
    rw [List.foldl_cons]
    refine ⟨k1, fun y => ?_⟩
    rw [k2, h2, cov_one, cov_cons]
    constructor
    · rintro ((h | h) | h)
      · exact .inl h
      · exact .inr (.inl h)
      · exact .inr (.inr h)
    · rintro (h | h | h)
      · exact .inl (.inl h)
      · exact .inl (.inr h)
      · exact .inr h
theorem norm_nil : Norm [] := ⟨(fun w h => by cases h), List.Pairwise.nil⟩
theorem merge_ok {l : List Wn} (hF : Full l) (hA : Asc l) : Norm (mergeW l) ∧ ∀ y, cov (mergeW l) y ↔ cov l y := by
  obtain ⟨h1, h2⟩ := fold_put l [] norm_nil hF hA (by intro x h; cases h)
  exact ⟨h1, fun y => (h2 y).trans ⟨fun h => h.elim (fun h => absurd h (cov_nil y)) id, .inr⟩⟩
/-- two least lists that cover the same are the same -/
theorem norm_unique : ∀ (l m : List Wn), Norm l → Norm m → (∀ y, cov l y ↔ cov m y) → l = m
  | [], [], _, _, _ => rfl
  | [], b :: m, _, hm, h => absurd ((h b.1).2 ⟨b, by simp, Int.le_refl _, hm.1 b (by simp)⟩) (cov_nil _)
  | a :: l, [], hl, _, h => absurd ((h a.1).1 ⟨a, by simp, Int.le_refl _, hl.1 a (by simp)⟩) (cov_nil _)
  | a :: l, b :: m, hl, hm, h => by
    have la := List.pairwise_cons.1 hl.2
    have lb := List.pairwise_cons.1 hm.2
    have fa := hl.1 a (by simp)
    have fb := hm.1 b (by simp)
    have e1 : b.1 ≤ a.1 := by
      obtain ⟨w, hw, k1, k2⟩ := (h a.1).1 ⟨a, by simp, Int.le_refl _, fa⟩
      rcases List.mem_cons.1 hw with rfl | hw
      · exact k1
      · have := lb.1 w hw; omega
    have e2 : a.1 ≤ b.1 := by
      obtain ⟨w, hw, k1, k2⟩ := (h b.1).2 ⟨b, by simp, Int.le_refl _, fb⟩
      rcases List.mem_cons.1 hw with rfl | hw
      · exact k1
      · have := la.1 w hw; omega
    have e3 : a.2 ≤ b.2 := by
      rcases Int.lt_or_le b.2 a.2 with hlt | hle
      · obtain ⟨w, hw, k1, k2⟩ := (h b.2).1 ⟨a, by simp, by omega, hlt⟩
        rcases List.mem_cons.1 hw with rfl | hw
        · omega
        · have := lb.1 w hw; omega
      · exact hle
    have e4 : b.2 ≤ a.2 := by
      rcases Int.lt_or_le a.2 b.2 with hlt | hle
      · obtain ⟨w, hw, k1, k2⟩ := (h a.2).2 ⟨b, by simp, by omega, hlt⟩
        rcases List.mem_cons.1 hw with rfl | hw
        · omega
        · have := la.1 w hw; omega
      · exact hle
    have e : a = b := Prod.ext (by omega) (by omega)
    subst e
    have hl' : Norm l := ⟨fun w hw => hl.1 w (by simp [hw]), la.2⟩
    have hm' : Norm m := ⟨fun w hw => hm.1 w (by simp [hw]), lb.2⟩
    rw [norm_unique l m hl' hm' fun y => ?_]
    constructor
    · rintro ⟨w, hw, k1, k2⟩
      have hgt := la.1 w hw
      obtain ⟨v, hv, j1, j2⟩ := (h y).1 ⟨w, by simp [hw], k1, k2⟩
      rcases List.mem_cons.1 hv with rfl | hv
      · omega
      · exact ⟨v, hv, j1, j2⟩
    · rintro ⟨w, hw, k1, k2⟩
      have hgt := lb.1 w hw
      obtain ⟨v, hv, j1, j2⟩ := (h y).2 ⟨w, by simp [hw], k1, k2⟩
      rcases List.mem_cons.1 hv with rfl | hv
      · omega
      · exact ⟨v, hv, j1, j2⟩

theorem mem_ins (l : List Wn) (w v : Wn) : v ∈ insW l w ↔ v = w ∨ v ∈ l := by
  unfold insW
  rw [List.mem_append, List.mem_cons]
  have : v ∈ l ↔ v ∈ l.takeWhile (fun v => decide (v.1 ≤ w.1)) ∨ v ∈ l.dropWhile (fun v => decide (v.1 ≤ w.1)) := by
    rw [← List.mem_append, List.takeWhile_append_dropWhile]
  rw [this]
  constructor
  · rintro (h | h | h)
    · exact .inr (.inl h)
    · exact .inl h
    · exact .inr (.inr h)
  · rintro (h | h | h)
    · exact .inr (.inl h)
    · exact .inl h
    · exact .inr (.inr h)
theorem ins_asc : ∀ (l : List Wn) (w : Wn), Asc l → Asc (insW l w)
  | [], w, _ => List.pairwise_singleton _ _
  | a :: l, w, h => by
    have ha := List.pairwise_cons.1 h
    by_cases hle : a.1 ≤ w.1
    · have e : insW (a :: l) w = a :: insW l w := by
        unfold insW
        rw [List.takeWhile_cons_of_pos (by simpa using hle), List.dropWhile_cons_of_pos (by simpa using hle)]; rfl
      rw [e]
      refine List.pairwise_cons.2 ⟨fun v hv => ?_, ins_asc l w ha.2⟩
      rcases (mem_ins l w v).1 hv with rfl | hv
      · exact hle
      · exact ha.1 v hv
    · have e : insW (a :: l) w = w :: a :: l := by
        unfold insW
        rw [List.takeWhile_cons_of_neg (by simpa using hle), List.dropWhile_cons_of_neg (by simpa using hle)]; rfl
      rw [e]
      refine List.pairwise_cons.2 ⟨fun v hv => ?_, h⟩
      rcases List.mem_cons.1 hv with rfl | hv
      · omega
      · have := ha.1 v hv; omega
theorem all_fold : ∀ (r a : List Wn), Full a → Asc a → Full (r.foldl (fun a w => if w.1 < w.2 then insW a w else a) a) ∧ Asc (r.foldl (fun a w => if w.1 < w.2 then insW a w else a) a) ∧ ∀ y, cov (r.foldl (fun a w => if w.1 < w.2 then insW a w else a) a) y ↔ cov a y ∨ cov r y
  | [], a, hF, hA => ⟨hF, hA, fun y => ⟨.inl, fun h => h.elim id fun h => absurd h (cov_nil y)⟩⟩
  | w :: r, a, hF, hA => by
    rw [List.foldl_cons]
    by_cases hw : w.1 < w.2
    · rw [if_pos hw]
      obtain ⟨h1, h2, h3⟩ := all_fold r (insW a w) (fun v hv => by
        rcases (mem_ins a w v).1 hv with rfl | hv
        · exact hw
        · exact hF v hv) (ins_asc a w hA)
      refine ⟨h1, h2, fun y => ?_⟩
      rw [h3, cov_cons]
      have : cov (insW a w) y ↔ (w.1 ≤ y ∧ y < w.2) ∨ cov a y := by
        constructor
        · rintro ⟨v, hv, k⟩
          rcases (mem_ins a w v).1 hv with rfl | hv
          · exact .inl k
          · exact .inr ⟨v, hv, k⟩
        · rintro (k | ⟨v, hv, k⟩)
          · exact ⟨w, (mem_ins a w w).2 (.inl rfl), k⟩
          · exact ⟨v, (mem_ins a w v).2 (.inr hv), k⟩
      rw [this]
      constructor
      · rintro ((h | h) | h)
        · exact .inr (.inl h)
        · exact .inl h
        · exact .inr (.inr h)
      · rintro (h | h | h)
        · exact .inl (.inr h)
        · exact .inl (.inl h)
        · exact .inr h
    · rw [if_neg hw]
      obtain ⟨h1, h2, h3⟩ := all_fold r a hF hA
      refine ⟨h1, h2, fun y => ?_⟩
      rw [h3, cov_cons]
      constructor
      · rintro (h | h)
        · exact .inl h
        · exact .inr (.inr h)
      · rintro (h | h | h)
        · exact .inl h
        · omega
        · exact .inr h
theorem all_ok (l : List Wn) : Full (allW l) ∧ Asc (allW l) ∧ ∀ y, cov (allW l) y ↔ cov l y := by
  obtain ⟨h1, h2, h3⟩ := all_fold l [] (fun w h => by cases h) List.Pairwise.nil
  exact ⟨h1, h2, fun y => (h3 y).trans ⟨fun h => h.elim (fun h => absurd h (cov_nil y)) id, .inr⟩⟩
theorem union_ok (l : List Wn) : Norm (unionW l) ∧ ∀ y, cov (unionW l) y ↔ cov l y := by
  obtain ⟨h1, h2, h3⟩ := all_ok l
  obtain ⟨k1, k2⟩ := merge_ok h1 h2
  exact ⟨k1, fun y => (k2 y).trans (h3 y)⟩
/-- however the windows that are not empty are sorted, merging gives the union -/
theorem merge_union (l s : List Wn) (hF : Full s) (hA : Asc s) (hc : ∀ w, w ∈ s ↔ w ∈ l ∧ w.1 < w.2) : mergeW s = unionW l := by
  obtain ⟨h1, h2⟩ := merge_ok hF hA
  obtain ⟨k1, k2⟩ := union_ok l
  refine norm_unique _ _ h1 k1 fun y => ?_
  rw [h2, k2]
  constructor
  · rintro ⟨w, hw, k⟩
    exact ⟨w, ((hc w).1 hw).1, k⟩
  · rintro ⟨w, hw, k⟩
    exact ⟨w, (hc w).2 ⟨hw, by omega⟩, k⟩

end Go.Proofs.Yteoaekjhicphlaa
