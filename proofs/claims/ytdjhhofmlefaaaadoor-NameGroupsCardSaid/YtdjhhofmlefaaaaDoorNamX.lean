/-
  Appending pairs, copying pairs, and the contract of slices.Insert at one pair at the beginning of a row of the caller's own. Condition: at most 100 pairs.
-/
import Derived.Test.YtdjhhofmlefaaaaDoorNamW
import Derived.Laws.AppendOwnNone
import Derived.ArgAppend
import Derived.Deep.AppendSrc
import Derived.Lib.Overlaps
import Derived.Lib.AppendZerosOnto
import Derived.Laws.Externs
import Derived.Laws.IdiomCopy
import Derived.Deep.RegionLaw
set_option linter.unusedVariables false
set_option linter.unusedSimpArgs false
set_option linter.unnecessarySimpa false
namespace Go.Proofs.YtdjhhofmlefaaaaDoor
open Go.RowKit Go.PlainAid

theorem pcells_len : ∀ l : List Pr, (pcells l).length = l.length * 2
  | [] => rfl
  | p :: l => by
    have h := pcells_len l
    have e : pcells (p :: l) = .string p.1 :: .string p.2 :: pcells l := rfl
    rw [e, List.length_cons, List.length_cons, h, List.length_cons]; omega
theorem pcells_one (l : List Pr) : ∀ u ∈ pcells l, u.oneCell' = true := by
  intro u hu
  obtain ⟨p, _, hp⟩ := List.mem_flatMap.1 hu
  simp at hp
  rcases hp with rfl | rfl <;> rfl
theorem pairs_cells {w : World} {b off : Nat} {ps : List Pr} (h : IsPairs w b off ps) : ∀ j u, (pcells ps)[j]? = some u → w.cell? ((⟨b, off, none⟩ : Addr).add j) = some u := by
  intro j u hj
  rw [WideShapes.add_plain]
  have hl : j < (pcells ps).length := by
    rcases Nat.lt_or_ge j (pcells ps).length with k | k
    · exact k
    · rw [List.getElem?_eq_none k] at hj; cases hj
  rw [pcells_len] at hl
  have hk := pcells_at ps (j / 2) (by omega)
  have hc := h.2 (j / 2) (by omega)
  rcases Nat.mod_two_eq_zero_or_one j with e | e
  · have e2 : j / 2 * 2 = j := by omega
    rw [e2] at hk hc
    rw [hk.1] at hj
    rw [hc.1]; exact hj
  · have e2 : j / 2 * 2 + 1 = j := by omega
    rw [e2] at hk
    rw [show off + j / 2 * 2 + 1 = off + j by omega] at hc
    rw [hk.2] at hj
    rw [hc.2]; exact hj
theorem cells_pairs {w : World} {b off : Nat} {ps : List Pr} (hb : b < w.heap.size) (h : ∀ j u, (pcells ps)[j]? = some u → w.cell? ⟨b, off + j, none⟩ = some u) : IsPairs w b off ps := by
  refine ⟨hb, fun j hj => ?_⟩
  have hk := pcells_at ps j hj
  exact ⟨h _ _ hk.1, by rw [Nat.add_assoc]; exact h _ _ hk.2⟩
/-- 'l = append(l, ps...)' where l is the call's own -/
theorem app_pairs {ops : Array Oper} {rest : List Oper} {o : Oper} {a : Act} {Q : Exit → Act → World → Prop} (wr : World) {base : Nat} {v : Value} {n : Nat} {xs : List Value} (hown : wr.ownsRow base 36 2 v n xs) (s x : Operand)
    (ao : Option Addr) (m c : Nat) (news : List Pr) (hgd : o.guard = none)
    (ho : o.op = .call { callee := .builtin .append, args := #[s, x], argTypes := #[24, 24] })
    (hs : a.eval s = v) (hx : a.eval x = .slice ao m c) (hw : PairsAt wr ao m c news) (h0 : ao = none → c = 0) (hn : n + m ≤ 1000000000) (hbase : base ≤ wr.heap.size)
    (h : ∀ v' w', w'.ownsRow base 36 2 v' (n + m) (xs ++ pcells news) → Below base wr w' → wpList Tryd.prog ops Q rest (a.put o.dst v') w') :
    wpList Tryd.prog ops Q (o :: rest) a wr := by
  obtain ⟨i0, hi, hz0, hz1, hz2⟩ := info_parts info_pair
  obtain ⟨w1, w2, w3, w4⟩ := hw
  cases ao with
  | none =>
    have hc := h0 rfl
    subst hc
    have hm : m = 0 := by omega
    subst hm
    have hnil : news = [] := List.length_eq_zero_iff.1 w1
    subst hnil
    refine wpList_append_own_none hgd s x 24 ho base 36 i0 2 Tryd.underlying24 hi v n xs hs hown hx ?_
    have := h v wr (by rw [show pcells [] = [] from rfl, List.append_nil]; exact hown) (Below.refl _ _)
    exact this
  | some ad =>
    have hnews : ∀ j u, (pcells news)[j]? = some u → wr.cell? (ad.add j) = some u := by
      rcases Nat.eq_zero_or_pos m with e | e
      · have hnil : news = [] := List.length_eq_zero_iff.1 (by omega)
        subst hnil
        intro j u hj; simp [pcells] at hj
      · obtain ⟨b, off, e2, hi2⟩ := w4 e
        cases e2
        exact pairs_cells hi2
    refine wpList_append_own _ hgd s x 24 ho base 36 i0 (.agg #[.string ⟨#[]⟩, .string ⟨#[]⟩]) 2 32 Tryd.underlying24 hi hz0 hz1 hz2 rfl (by decide) v n xs hs hown ad m c (pcells news) hx (by rw [pcells_len, w1]) hnews
      (pcells_one _) (by unfold maxLen; omega) (by omega) hbase ?_
    intro v' w' h1 h2 _
    exact h v' w' h1 ((Below.refl base wr).grown h2 hbase (fun k hk => (hown.lt k hk).1))
theorem pcells_length {l : List Pr} {n : Nat} (h : l.length = n) : (pcells l).length = n * 2 := by rw [pcells_len, h]
/-- a row that was just laid -/
theorem own_new1 (w : World) (p : Pr) : (w.alloc (.cells #[.string p.1, .string p.2] 36)).ownsRow w.heap.size 36 2 (.slice (some ⟨w.heap.size, 0, none⟩) 1 1) 1 (pcells [p]) :=
  ⟨rfl, .inr ⟨w.heap.size, 1, #[.string p.1, .string p.2], rfl, Nat.le_refl _, heap_alloc_new w _, Nat.le_refl _, by unfold maxLen; omega, rfl, rfl⟩⟩
/-- 'append(l, ps...)' where l has no room -/
theorem app_onto {ops : Array Oper} {rest : List Oper} {o : Oper} {a : Act} {Q : Exit → Act → World → Prop} (wr : World) (s x : Operand) (ao bo : Option Addr) (n m c : Nat) (olds news : List Pr) (hgd : o.guard = none)
    (ho : o.op = .call { callee := .builtin .append, args := #[s, x], argTypes := #[24, 24] })
    (hs : a.eval s = .slice ao n n) (hx : a.eval x = .slice bo m c) (hold : PairsAt wr ao n n olds) (hnone : ao = none → n = 0) (hplain : ∀ ad, ao = some ad → ad.spot = none) (hw : PairsAt wr bo m c news) (h0 : bo = none → c = 0) (hn : n + m ≤ 1000000)
    (h : ∀ xo cap w', PairsAt w' xo (n + m) cap (olds ++ news) → Below wr.heap.size wr w' → wpList Tryd.prog ops Q rest (a.put o.dst (.slice xo (n + m) cap)) w') :
    wpList Tryd.prog ops Q (o :: rest) a wr := by
  obtain ⟨i0, hi, hz0, hz1, hz2⟩ := info_parts info_pair
  cases ao with
  | none =>
    have e0 := hnone rfl
    subst e0
    have e1 : olds = [] := List.length_eq_zero_iff.1 hold.1
    subst e1
    refine app_pairs wr (World.ownsRow_nil wr wr.heap.size 36 2) s x bo m c news hgd ho hs hx hw h0 (by omega) (Nat.le_refl _) ?_
    intro v' w' h1 h2
    obtain ⟨xo, cap, rfl, hat⟩ := pairs_own (l := news) (by rw [List.nil_append] at h1; exact h1) (by rw [hw.1]; omega)
    exact h xo cap w' (by rw [List.nil_append]; exact hat) h2
  | some ad =>
    have hsp := hplain ad rfl
    obtain ⟨b, off, spot⟩ := ad
    simp only at hsp
    subst hsp
    rcases Nat.eq_zero_or_pos m with e | e
    · subst e
      have e1 : news = [] := List.length_eq_zero_iff.1 hw.1
      subst e1
      have hsrc : Src Tryd.prog i0.size 24 (.slice bo 0 c) 0 [] wr := by
        cases bo with
        | none => exact Src.ofNil wr Tryd.underlying24 c
        | some a2 => exact Src.ofSlice wr Tryd.underlying24 a2 0 c [] (by simp) (fun j u hj => by simp at hj) (fun u hu => by cases hu)
      refine wpList_plain hgd fun K hK => ?_
      have hrun := run_append_room_src (P := Tryd.prog) (w := wr) 24 24 o.type 36 i0 Tryd.underlying24 hi b off n n (.slice bo 0 c) 0 [] hsrc (by omega) (fun j hj => by simp at hj) (fun j hj => by simp at hj)
      unfold Oper.wp
      simp [execOp, ho, resolve, invoke, builtin, hs, hx, hrun, Result.andThen]
      refine hK _ _ (h (some ⟨b, off, none⟩) n wr (by rw [List.append_nil]; exact hold) (Below.refl _ _))
    · obtain ⟨b2, off2, e2, hi2⟩ := hw.2.2.2 e
      subst e2
      refine wpList_append_grows wr hgd s x 24 ho 36 i0 (.agg #[.string ⟨#[]⟩, .string ⟨#[]⟩]) 2 32 Tryd.underlying24 hi hz0 hz1 hz2 rfl (by decide) (some ⟨b, off, none⟩) n n (pcells olds) hs (fun e => by cases e) (pcells_length hold.1)
        (fun ad had j u hj => ?_) ⟨b2, off2, none⟩ m c (pcells news) hx (pcells_length hw.1) (pairs_cells hi2) (pcells_one _) (by omega) (by unfold maxLen; omega) (by omega) ?_
      · cases had
        rcases Nat.eq_zero_or_pos n with e0 | e0
        · have e1 : olds = [] := List.length_eq_zero_iff.1 (by rw [hold.1]; exact e0)
          subst e1; simp [pcells] at hj
        · obtain ⟨b3, off3, e3, hi3⟩ := hold.2.2.2 e0
          cases e3
          exact pairs_cells hi3 j u hj
      · intro v' w' h1 h2
        obtain ⟨xo, cap, rfl, hat⟩ := pairs_own (l := olds ++ news) (by rw [pcells_append]; exact h1) (by rw [List.length_append, hold.1, hw.1])
        exact h xo cap w' hat ((Below.refl _ wr).grown h2 (Nat.le_refl _) (fun k hk => by cases hk))

/-! ### copying -/
theorem run_copy_two (w : World) (dT sT ty elem : TypeId) (b o dLen dCap : Nat) (a : Addr) (sLen sCap m : Nat) (cs : List Value) (hu : Tryd.prog.underlying dT = some (.slice elem)) (hs : (Tryd.prog.info? elem).map (·.size) = some 2) (hm : Nat.min sLen dLen = m) (hn : cs.length = m * 2)
    (hsrc : ∀ j v, cs[j]? = some v → w.cell? (a.add j) = some v) (hc : ∀ j, j < cs.length → (w.cell? ⟨b, o + j, none⟩).isSome = true) (hf : ∀ j, j < cs.length → w.frozen? ⟨b, o + j, none⟩ = false) (h1 : ∀ v ∈ cs, v.oneCell' = true) :
    (Builtin.copy_ #[dT, sT] ty #[.slice (some ⟨b, o, none⟩) dLen dCap, .slice (some a) sLen sCap]).run Tryd.prog w = .ok (goInt m) (w.setCells b o cs) := by
  have hl := run_loadCells_list (P := Tryd.prog) w a cs hsrc
  rw [hn] at hl
  have hst := run_storeCells_cells (P := Tryd.prog) b o cs 0 w (by simpa using hc) (by simpa using hf) h1
  rw [Nat.add_zero] at hst
  cases hq : Tryd.prog.info? elem with
  | none => simp [hq] at hs
  | some i =>
    have hi : i.size = 2 := by simpa [hq] using hs
    have hm2 : min sLen dLen = m := hm
    simp [Builtin.copy_, run_underlying hu, Builtin.lenOf, Builtin.firstCells, sizeOf, typeInfo, hq, hi, hm, hm2, hl, hst]

end Go.Proofs.YtdjhhofmlefaaaaDoor
