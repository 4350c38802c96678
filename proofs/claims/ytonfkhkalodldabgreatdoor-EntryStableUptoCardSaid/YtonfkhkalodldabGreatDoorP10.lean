/-
  Texts of the schema layer and of those beneath it, joined: NamX, NamY, NamZ, NamQ, NamO, NamT, NamD, SchStrs, SchMem, SchL, SchIx, SchG, SchOrC, SchC, MapRaw, SchT. Conditions stand at each contract.
-/
import Derived.Laws.AppendOwnNone
import Derived.ArgAppend
import Derived.Deep.AppendSrc
import Derived.Lib.Overlaps
import Derived.Lib.AppendZerosOnto
import Derived.Laws.Externs
import Derived.Laws.IdiomCopy
import Derived.Deep.RegionLaw
import Derived.WalkLawsBesides
import Derived.Lib.SliceRun
import Derived.StillTailTactics
import Derived.Shelf.SlicesQ.Reverse
import Derived.BigRegion
import Derived.Deep.RegionHeld3
import Derived.Deep.AppendLies
import Derived.Lib.SmallJoins
import Derived.Maps.AppendAt
import Derived.Test.YtonfkhkalodldabGreatDoorP01
import Derived.Test.YtonfkhkalodldabGreatDoorP02
import Derived.Test.YtonfkhkalodldabGreatDoorP03
import Derived.Test.YtonfkhkalodldabGreatDoorP06
import Derived.Test.YtonfkhkalodldabGreatDoorP09
set_option linter.unusedVariables false
set_option linter.unusedSimpArgs false
set_option linter.unnecessarySimpa false

section
/-
  Appending pairs, copying pairs, and the contract of slices.Insert at one pair at the beginning of a row of the caller's own. Condition: at most 100 pairs.
-/
set_option maxRecDepth 100000
namespace Go.Proofs.YtonfkhkalodldabGreatDoor
namespace Nam
open Go.RowKit Go.PlainAid
theorem pcells_len : ∀ l : List Pr, (pcells l).length = l.length * 2
  | [] => rfl
  | p :: l => by
    have h := pcells_len l
    have e : pcells (p :: l) = .string p.1 :: .string p.2 :: pcells l := rfl
    rw [e, List.length_cons, List.length_cons, h, List.length_cons]; omega
theorem pcells_one (l : List Pr) : ∀ u ∈ pcells l, u.oneCell' = true := by
  intro u hu
  obtain ⟨p, _, hp⟩ := List.mem_flatMap.1 hu
  simp at hp
  rcases hp with rfl | rfl <;> rfl
theorem pairs_cells {w : World} {b off : Nat} {ps : List Pr} (h : IsPairs w b off ps) : ∀ j u, (pcells ps)[j]? = some u → w.cell? ((⟨b, off, none⟩ : Addr).add j) = some u := by
  intro j u hj
  rw [WideShapes.add_plain]
  have hl : j < (pcells ps).length := by
    rcases Nat.lt_or_ge j (pcells ps).length with k | k
    · exact k
    · rw [List.getElem?_eq_none k] at hj; cases hj
  rw [pcells_len] at hl
  have hk := pcells_at ps (j / 2) (by omega)
  have hc := h.2 (j / 2) (by omega)
  rcases Nat.mod_two_eq_zero_or_one j with e | e
  · have e2 : j / 2 * 2 = j := by omega
    rw [e2] at hk hc
    rw [hk.1] at hj
    rw [hc.1]; exact hj
  · have e2 : j / 2 * 2 + 1 = j := by omega
    rw [e2] at hk
    rw [show off + j / 2 * 2 + 1 = off + j by omega] at hc
    rw [hk.2] at hj
    rw [hc.2]; exact hj
/-- 'l = append(l, ps...)' where l is the call's own -/
theorem app_pairs {ops : Array Oper} {rest : List Oper} {o : Oper} {a : Act} {Q : Exit → Act → World → Prop} (wr : World) {base : Nat} {v : Value} {n : Nat} {xs : List Value} (hown : wr.ownsRow base 118 2 v n xs) (s x : Operand)
    (ao : Option Addr) (m c : Nat) (news : List Pr) (hgd : o.guard = none)
    (ho : o.op = .call { callee := .builtin .append, args := #[s, x], argTypes := #[73, 73] })
    (hs : a.eval s = v) (hx : a.eval x = .slice ao m c) (hw : PairsAt wr ao m c news) (h0 : ao = none → c = 0) (hn : n + m ≤ 1000000000) (hbase : base ≤ wr.heap.size)
    (h : ∀ v' w', w'.ownsRow base 118 2 v' (n + m) (xs ++ pcells news) → Below base wr w' → wpList Tryz.prog ops Q rest (a.put o.dst v') w') :
    wpList Tryz.prog ops Q (o :: rest) a wr := by
  obtain ⟨i0, hi, hz0, hz1, hz2⟩ := info_parts info_pair
  obtain ⟨w1, w2, w3, w4⟩ := hw
  cases ao with
  | none =>
    have hc := h0 rfl
    subst hc
    have hm : m = 0 := by omega
    subst hm
    have hnil : news = [] := List.length_eq_zero_iff.1 w1
    subst hnil
    refine wpList_append_own_none hgd s x 73 ho base 118 i0 2 Tryz.underlying73 hi v n xs hs hown hx ?_
    have := h v wr (by rw [show pcells [] = [] from rfl, List.append_nil]; exact hown) (Below.refl _ _)
    exact this
  | some ad =>
    have hnews : ∀ j u, (pcells news)[j]? = some u → wr.cell? (ad.add j) = some u := by
      rcases Nat.eq_zero_or_pos m with e | e
      · have hnil : news = [] := List.length_eq_zero_iff.1 (by omega)
        subst hnil
        intro j u hj; simp [pcells] at hj
      · obtain ⟨b, off, e2, hi2⟩ := w4 e
        cases e2
        exact pairs_cells hi2
    refine wpList_append_own _ hgd s x 73 ho base 118 i0 (.agg #[.string ⟨#[]⟩, .string ⟨#[]⟩]) 2 32 Tryz.underlying73 hi hz0 hz1 hz2 rfl (by decide) v n xs hs hown ad m c (pcells news) hx (by rw [pcells_len, w1]) hnews
      (pcells_one _) (by unfold maxLen; omega) (by omega) hbase ?_
    intro v' w' h1 h2 _
    exact h v' w' h1 ((Below.refl base wr).grown h2 hbase (fun k hk => (hown.lt k hk).1))
theorem pcells_length {l : List Pr} {n : Nat} (h : l.length = n) : (pcells l).length = n * 2 := by rw [pcells_len, h]
/-- 'append(l, ps...)' where l has no room -/
theorem app_onto {ops : Array Oper} {rest : List Oper} {o : Oper} {a : Act} {Q : Exit → Act → World → Prop} (wr : World) (s x : Operand) (ao bo : Option Addr) (n m c : Nat) (olds news : List Pr) (hgd : o.guard = none)
    (ho : o.op = .call { callee := .builtin .append, args := #[s, x], argTypes := #[73, 73] })
    (hs : a.eval s = .slice ao n n) (hx : a.eval x = .slice bo m c) (hold : PairsAt wr ao n n olds) (hnone : ao = none → n = 0) (hplain : ∀ ad, ao = some ad → ad.spot = none) (hw : PairsAt wr bo m c news) (h0 : bo = none → c = 0) (hn : n + m ≤ 1100000)
    (h : ∀ xo cap w', PairsAt w' xo (n + m) cap (olds ++ news) → Below wr.heap.size wr w' → wpList Tryz.prog ops Q rest (a.put o.dst (.slice xo (n + m) cap)) w') :
    wpList Tryz.prog ops Q (o :: rest) a wr := by
  obtain ⟨i0, hi, hz0, hz1, hz2⟩ := info_parts info_pair
  cases ao with
  | none =>
    have e0 := hnone rfl
    subst e0
    have e1 : olds = [] := List.length_eq_zero_iff.1 hold.1
    subst e1
    refine app_pairs wr (World.ownsRow_nil wr wr.heap.size 118 2) s x bo m c news hgd ho hs hx hw h0 (by omega) (Nat.le_refl _) ?_
    intro v' w' h1 h2
    obtain ⟨xo, cap, rfl, hat⟩ := pairs_own (l := news) (by rw [List.nil_append] at h1; exact h1) (by rw [hw.1]; omega)
    exact h xo cap w' (by rw [List.nil_append]; exact hat) h2
  | some ad =>
    have hsp := hplain ad rfl
    obtain ⟨b, off, spot⟩ := ad
    simp only at hsp
    subst hsp
    rcases Nat.eq_zero_or_pos m with e | e
    · subst e
      have e1 : news = [] := List.length_eq_zero_iff.1 hw.1
      subst e1
      have hsrc : Src Tryz.prog i0.size 73 (.slice bo 0 c) 0 [] wr := by
        cases bo with
        | none => exact Src.ofNil wr Tryz.underlying73 c
        | some a2 => exact Src.ofSlice wr Tryz.underlying73 a2 0 c [] (by simp) (fun j u hj => by simp at hj) (fun u hu => by cases hu)
      refine wpList_plain hgd fun K hK => ?_
      have hrun := run_append_room_src (P := Tryz.prog) (w := wr) 73 73 o.type 118 i0 Tryz.underlying73 hi b off n n (.slice bo 0 c) 0 [] hsrc (by omega) (fun j hj => by simp at hj) (fun j hj => by simp at hj)
      unfold Oper.wp
      simp [execOp, ho, resolve, invoke, builtin, hs, hx, hrun, Result.andThen]
      refine hK _ _ (h (some ⟨b, off, none⟩) n wr (by rw [List.append_nil]; exact hold) (Below.refl _ _))
    · obtain ⟨b2, off2, e2, hi2⟩ := hw.2.2.2 e
      subst e2
      refine wpList_append_grows wr hgd s x 73 ho 118 i0 (.agg #[.string ⟨#[]⟩, .string ⟨#[]⟩]) 2 32 Tryz.underlying73 hi hz0 hz1 hz2 rfl (by decide) (some ⟨b, off, none⟩) n n (pcells olds) hs (fun e => by cases e) (pcells_length hold.1)
        (fun ad had j u hj => ?_) ⟨b2, off2, none⟩ m c (pcells news) hx (pcells_length hw.1) (pairs_cells hi2) (pcells_one _) (by omega) (by unfold maxLen; omega) (by omega) ?_
      · cases had
        rcases Nat.eq_zero_or_pos n with e0 | e0
        · have e1 : olds = [] := List.length_eq_zero_iff.1 (by rw [hold.1]; exact e0)
          subst e1; simp [pcells] at hj
        · obtain ⟨b3, off3, e3, hi3⟩ := hold.2.2.2 e0
          cases e3
          exact pairs_cells hi3 j u hj
      · intro v' w' h1 h2
        obtain ⟨xo, cap, rfl, hat⟩ := pairs_own (l := olds ++ news) (by rw [pcells_append]; exact h1) (by rw [List.length_append, hold.1, hw.1])
        exact h xo cap w' hat ((Below.refl _ wr).grown h2 (Nat.le_refl _) (fun k hk => by cases hk))
/-! ### copying -/
end Nam
end Go.Proofs.YtonfkhkalodldabGreatDoor
end

section
/-
  The contract of slices.Insert at one pair at the beginning of a row of the caller's own. Condition: at most 100 pairs.
-/
set_option maxRecDepth 100000
namespace Go.Proofs.YtonfkhkalodldabGreatDoor
namespace Nam
open Go.RowKit Go.PlainAid
end Nam
end Go.Proofs.YtonfkhkalodldabGreatDoor
end

section
/-
  Contracts of Child and Rebase in the program and in the specification. Condition: at most 1100000 bytes.
-/
set_option maxRecDepth 100000
namespace Go.Proofs.YtonfkhkalodldabGreatDoor
namespace Nam
open Go.RowKit Go.PlainAid
theorem small_app {l m : List Pr} (h : Small l) (k : Small m) (hn : l.length + m.length ≤ 1000) : Small (l ++ m) := small_of _ (by simp; omega) fun q hq => by
  rcases List.mem_append.1 hq with hq | hq
  · exact h.mem q hq
  · exact k.mem q hq
end Nam
end Go.Proofs.YtonfkhkalodldabGreatDoor
end

section
/-
  Contracts of Rebase in the program and in the specification. Condition: at most 1100000 bytes.
-/
set_option maxRecDepth 100000
namespace Go.Proofs.YtonfkhkalodldabGreatDoor
namespace Nam
open Go.RowKit Go.PlainAid
end Nam
end Go.Proofs.YtonfkhkalodldabGreatDoor
end

section
/-
  Contracts of cmp.Or at two numbers, name.comparePairs, slices.Reverse and slices.CompareFunc at pairs, and the specification's bytes. Condition: at most 1000 pairs.
-/
set_option maxRecDepth 100000
namespace Go.Proofs.YtonfkhkalodldabGreatDoor
namespace Nam
open Go.RowKit Go.PlainAid
end Nam
end Go.Proofs.YtonfkhkalodldabGreatDoor
end

section
/-
  Contracts of slices.Reverse and slices.CompareFunc at pairs, and of Compare in the program. Condition: at most 1100000 bytes.
-/
set_option maxRecDepth 100000
namespace Go.Proofs.YtonfkhkalodldabGreatDoor
namespace Nam
open Go.RowKit Go.PlainAid Go.Shelf
open Go.Sort (HoldsK putRowK flatK size_flatK get_flatK holdsK_putRowK)
instance : Inhabited Pr := ⟨(ByteArray.empty, ByteArray.empty)⟩
end Nam
end Go.Proofs.YtonfkhkalodldabGreatDoor
end

section
/-
  Contracts of Compare in the program and in the specification. Condition: at most 1100000 bytes.
-/
set_option maxRecDepth 100000
namespace Go.Proofs.YtonfkhkalodldabGreatDoor
namespace Nam
open Go.RowKit Go.PlainAid
end Nam
end Go.Proofs.YtonfkhkalodldabGreatDoor
end

section
/-
  Slices of strings that the call has made or that came in, and the contract of the specification's Same. No condition beyond sizes.
-/
set_option maxRecDepth 100000
namespace Go.Proofs.YtonfkhkalodldabGreatDoor
open Go.RowKit Go.PlainAid
end Go.Proofs.YtonfkhkalodldabGreatDoor
end

section
/-
  Types and classes of a schema in memory: slices of structs of three and of four cells, and the schema that a law is given, read out of memory with the form's own reach. No condition.
-/
set_option maxRecDepth 100000
set_option maxRecDepth 100000
namespace Go.Proofs.YtonfkhkalodldabGreatDoor
open Go.ChangeShapes Go.WideShapes Go.ChangeAt Go.RowKit Go.PlainAid
/-! ### elements of three and of four one-cell fields -/
section
variable {H : Type} {enc : TypeId × Value → H} {P : Program} {w : World} {base : Nat} {spare : Nat → Bool} {held : Bool}
theorem elem3 {e : TypeId} {f0 f1 f2 : Field} {n : Nat} {a : Addr} {cs : List Value} {y : DataW H × List MemPlace} (he : P.underlying e = some (.struct #[f0, f1, f2])) (ce : P.cellsOf e = 3)
    (o0 : f0.offset = 0) (o1 : f1.offset = 1) (o2 : f2.offset = 2) (c0 : P.cellsOf f0.type = 1) (c1 : P.cellsOf f1.type = 1) (c2 : P.cellsOf f2.type = 1)
    (h1 : w.cells? base a (P.cellsOf e) = some cs) (h2 : DataW.trod enc P w base spare held n e cs = some y) :
    ∃ v0 v1 v2 y0 y1 y2 m, w.cell? a = some v0 ∧ w.cell? (a.add 1) = some v1 ∧ w.cell? (a.add 2) = some v2 ∧ DataW.trod enc P w base spare held m f0.type [v0] = some y0 ∧ DataW.trod enc P w base spare held m f1.type [v1] = some y1 ∧ DataW.trod enc P w base spare held m f2.type [v2] = some y2 ∧ y.1 = .agg [y0.1, y1.1, y2.1] := by
  rw [ce] at h1
  obtain ⟨_, hlen, hcell⟩ := World.cells?_some h1
  obtain ⟨xs, k, hk, hxy, _, hxl, hf⟩ := DataW.trod_struct he h2
  match xs, hxl, cs, hlen with
  | [y0, y1, y2], _, [v0, v1, v2], _ =>
    have g0 := hf 0 f0 rfl
    have g1 := hf 1 f1 rfl
    have g2 := hf 2 f2 rfl
    simp [o0, o1, o2, c0, c1, c2] at g0 g1 g2
    have e0 := hcell 0 (by omega)
    have e1 := hcell 1 (by omega)
    have e2 := hcell 2 (by omega)
    exact ⟨v0, v1, v2, y0, y1, y2, k, by simpa [Addr.add] using e0, by simpa using e1, by simpa using e2, g0, g1, g2, by rw [hxy]; simp⟩
theorem elem4 {e : TypeId} {f0 f1 f2 f3 : Field} {n : Nat} {a : Addr} {cs : List Value} {y : DataW H × List MemPlace} (he : P.underlying e = some (.struct #[f0, f1, f2, f3])) (ce : P.cellsOf e = 4)
    (o0 : f0.offset = 0) (o1 : f1.offset = 1) (o2 : f2.offset = 2) (o3 : f3.offset = 3) (c0 : P.cellsOf f0.type = 1) (c1 : P.cellsOf f1.type = 1) (c2 : P.cellsOf f2.type = 1) (c3 : P.cellsOf f3.type = 1)
    (h1 : w.cells? base a (P.cellsOf e) = some cs) (h2 : DataW.trod enc P w base spare held n e cs = some y) :
    ∃ v0 v1 v2 v3 y0 y1 y2 y3 m, w.cell? a = some v0 ∧ w.cell? (a.add 1) = some v1 ∧ w.cell? (a.add 2) = some v2 ∧ w.cell? (a.add 3) = some v3 ∧ DataW.trod enc P w base spare held m f0.type [v0] = some y0 ∧ DataW.trod enc P w base spare held m f1.type [v1] = some y1 ∧ DataW.trod enc P w base spare held m f2.type [v2] = some y2 ∧ DataW.trod enc P w base spare held m f3.type [v3] = some y3 ∧ y.1 = .agg [y0.1, y1.1, y2.1, y3.1] := by
  rw [ce] at h1
  obtain ⟨_, hlen, hcell⟩ := World.cells?_some h1
  obtain ⟨xs, k, hk, hxy, _, hxl, hf⟩ := DataW.trod_struct he h2
  match xs, hxl, cs, hlen with
  | [y0, y1, y2, y3], _, [v0, v1, v2, v3], _ =>
    have g0 := hf 0 f0 rfl
    have g1 := hf 1 f1 rfl
    have g2 := hf 2 f2 rfl
    have g3 := hf 3 f3 rfl
    simp [o0, o1, o2, o3, c0, c1, c2, c3] at g0 g1 g2 g3
    have e0 := hcell 0 (by omega)
    have e1 := hcell 1 (by omega)
    have e2 := hcell 2 (by omega)
    have e3 := hcell 3 (by omega)
    exact ⟨v0, v1, v2, v3, y0, y1, y2, y3, k, by simpa [Addr.add] using e0, by simpa using e1, by simpa using e2, by simpa using e3, g0, g1, g2, g3, by rw [hxy]; simp⟩
end
/-- as many things as wanted, each with its property -/
theorem choose_list {α : Type} {n : Nat} (d : α) {Q : Nat → α → Prop} (h : ∀ i, i < n → ∃ a, Q i a) : ∃ l : List α, l.length = n ∧ ∀ i, i < n → Q i (l.getD i d) := by
  induction n with
  | zero => exact ⟨[], rfl, fun i hi => absurd hi (Nat.not_lt_zero _)⟩
  | succ n ih =>
    obtain ⟨l, hl, hp⟩ := ih (fun i hi => h i (by omega))
    obtain ⟨a, ha⟩ := h n (by omega)
    refine ⟨l ++ [a], by simp [hl], fun i hi => ?_⟩
    by_cases e : i = n
    · subst e
      rw [List.getD_eq_getElem?_getD, List.getElem?_append_right (by omega), hl]
      simpa using ha
    · rw [List.getD_eq_getElem?_getD, List.getElem?_append_left (by omega), ← List.getD_eq_getElem?_getD]
      exact hp i (by omega)
/-! ### types -/
/-- a type: its name, its syntax, whether it has one value at most -/
structure Ty where
  name : ByteArray
  syn : Int
  single : Bool
/-- a class: its name, the one above it, the names that it wants, the names that it allows -/
structure Cl where
  name : ByteArray
  super : ByteArray
  must : List ByteArray
  may : List ByteArray
instance : Inhabited Ty := ⟨⟨⟨#[]⟩, 0, false⟩⟩
instance : Inhabited Cl := ⟨⟨⟨#[]⟩, ⟨#[]⟩, [], []⟩⟩
def tyAt (l : List Ty) (j : Nat) : Ty := l.getD j default
def clAt (l : List Cl) (j : Nat) : Cl := l.getD j default
theorem ty_mem (l : List Ty) (j : Nat) (h : j < l.length) : tyAt l j ∈ l := by
  unfold tyAt; rw [List.getD_eq_getElem?_getD, List.getElem?_eq_getElem h]; exact List.getElem_mem h
theorem cl_mem (l : List Cl) (j : Nat) (h : j < l.length) : clAt l j ∈ l := by
  unfold clAt; rw [List.getD_eq_getElem?_getD, List.getElem?_eq_getElem h]; exact List.getElem_mem h
theorem mem_ty {l : List Ty} {t : Ty} (h : t ∈ l) : ∃ j, j < l.length ∧ tyAt l j = t := by
  obtain ⟨j, hj, e⟩ := List.mem_iff_getElem.1 h
  exact ⟨j, hj, by unfold tyAt; rw [List.getD_eq_getElem?_getD, List.getElem?_eq_getElem hj]; exact e⟩
theorem mem_cl {l : List Cl} {t : Cl} (h : t ∈ l) : ∃ j, j < l.length ∧ clAt l j = t := by
  obtain ⟨j, hj, e⟩ := List.mem_iff_getElem.1 h
  exact ⟨j, hj, by unfold clAt; rw [List.getD_eq_getElem?_getD, List.getElem?_eq_getElem hj]; exact e⟩
/-- a type in memory -/
def TyAt (w : World) (b off : Nat) (t : Ty) : Prop :=
  w.cell? ⟨b, off, none⟩ = some (.string t.name) ∧ w.cell? ⟨b, off + 1, none⟩ = some (.int .i64 t.syn) ∧ w.cell? ⟨b, off + 2, none⟩ = some (.bool t.single)
theorem TyAt.below {w w' : World} {b off : Nat} {t : Ty} (h : TyAt w b off t) (hb : Below w.heap.size w w') : TyAt w' b off t :=
  ⟨cell_later hb h.1, cell_later hb h.2.1, cell_later hb h.2.2⟩
/-- a slice of types in memory -/
def TysAt (w : World) (ao : Option Addr) (n cap : Nat) (l : List Ty) : Prop :=
  l.length = n ∧ n ≤ cap ∧ cap ≤ maxLen ∧ (0 < n → ∃ b off, ao = some ⟨b, off, none⟩ ∧ b < w.heap.size ∧ ∀ j, j < n → TyAt w b (off + j * 3) (tyAt l j))
theorem TysAt.below {w w' : World} {ao : Option Addr} {n cap : Nat} {l : List Ty} (h : TysAt w ao n cap l) (hb : Below w.heap.size w w') : TysAt w' ao n cap l :=
  ⟨h.1, h.2.1, h.2.2.1, fun hn => by
    obtain ⟨b, off, e, hi, ha⟩ := h.2.2.2 hn
    exact ⟨b, off, e, Nat.lt_of_lt_of_le hi hb.size, fun j hj => (ha j hj).below hb⟩⟩
/-- a class in memory -/
def ClAt (w : World) (b off : Nat) (c : Cl) : Prop :=
  w.cell? ⟨b, off, none⟩ = some (.string c.name) ∧ w.cell? ⟨b, off + 1, none⟩ = some (.string c.super) ∧
    (∃ vo vn vc, w.cell? ⟨b, off + 2, none⟩ = some (.slice vo vn vc) ∧ StrsAt w vo vn vc c.must) ∧ ∃ vo vn vc, w.cell? ⟨b, off + 3, none⟩ = some (.slice vo vn vc) ∧ StrsAt w vo vn vc c.may
theorem ClAt.below {w w' : World} {b off : Nat} {c : Cl} (h : ClAt w b off c) (hb : Below w.heap.size w w') : ClAt w' b off c := by
  obtain ⟨h0, h1, ⟨vo, vn, vc, h2, h3⟩, uo, un, uc, h4, h5⟩ := h
  exact ⟨cell_later hb h0, cell_later hb h1, ⟨vo, vn, vc, cell_later hb h2, h3.below hb⟩, uo, un, uc, cell_later hb h4, h5.below hb⟩
/-- a slice of classes in memory -/
def ClsAt (w : World) (ao : Option Addr) (n cap : Nat) (l : List Cl) : Prop :=
  l.length = n ∧ n ≤ cap ∧ cap ≤ maxLen ∧ (0 < n → ∃ b off, ao = some ⟨b, off, none⟩ ∧ b < w.heap.size ∧ ∀ j, j < n → ClAt w b (off + j * 4) (clAt l j))
theorem ClsAt.below {w w' : World} {ao : Option Addr} {n cap : Nat} {l : List Cl} (h : ClsAt w ao n cap l) (hb : Below w.heap.size w w') : ClsAt w' ao n cap l :=
  ⟨h.1, h.2.1, h.2.2.1, fun hn => by
    obtain ⟨b, off, e, hi, ha⟩ := h.2.2.2 hn
    exact ⟨b, off, e, Nat.lt_of_lt_of_le hi hb.size, fun j hj => (ha j hj).below hb⟩⟩
theorem cells_ty : Tryz.prog.cellsOf 104 = 3 := by kernel_rfl
theorem cells_cl : Tryz.prog.cellsOf 106 = 4 := by kernel_rfl
theorem und_syntax : Tryz.prog.underlying 102 = some (.int .i64) := by kernel_rfl
end Go.Proofs.YtonfkhkalodldabGreatDoor
end

section
/-
  A schema as a pure value: the type and the class of a name, the first error, the lineage, what is wanted and allowed. No condition.
-/
set_option maxRecDepth 100000
set_option maxRecDepth 100000
namespace Go.Proofs.YtonfkhkalodldabGreatDoor
open Go.RowKit Go.PlainAid
/-- the type, the class of a name, whatever the letters' case -/
def tyOf (l : List Ty) (n : ByteArray) : Option Ty := l.find? fun t => decide (lowS t.name = lowS n)
def clOf (l : List Cl) (n : ByteArray) : Option Cl := l.find? fun c => decide (lowS c.name = lowS n)
theorem tyOf_low (l : List Ty) (n : ByteArray) : tyOf l (lowS n) = tyOf l n := by unfold tyOf; rw [lowS_low]
theorem clOf_low (l : List Cl) (n : ByteArray) : clOf l (lowS n) = clOf l n := by unfold clOf; rw [lowS_low]
theorem ty_take (l : List Ty) (k : Nat) (h : k < l.length) : l.take (k + 1) = l.take k ++ [tyAt l k] := by
  unfold tyAt; rw [List.getD_eq_getElem?_getD, List.getElem?_eq_getElem h]; exact List.take_succ_eq_append_getElem h
theorem cl_take (l : List Cl) (k : Nat) (h : k < l.length) : l.take (k + 1) = l.take k ++ [clAt l k] := by
  unfold clAt; rw [List.getD_eq_getElem?_getD, List.getElem?_eq_getElem h]; exact List.take_succ_eq_append_getElem h
theorem tyOf_snoc (l : List Ty) (t : Ty) (n : ByteArray) : tyOf (l ++ [t]) n = (tyOf l n).or (if lowS t.name = lowS n then some t else none) := by
  unfold tyOf
  rw [List.find?_append]
  by_cases h : lowS t.name = lowS n
  · rw [if_pos h, List.find?_cons_of_pos (by simpa using h)]
  · rw [if_neg h, List.find?_cons_of_neg (by simpa using h), List.find?_nil]
theorem clOf_snoc (l : List Cl) (t : Cl) (n : ByteArray) : clOf (l ++ [t]) n = (clOf l n).or (if lowS t.name = lowS n then some t else none) := by
  unfold clOf
  rw [List.find?_append]
  by_cases h : lowS t.name = lowS n
  · rw [if_pos h, List.find?_cons_of_pos (by simpa using h)]
  · rw [if_neg h, List.find?_cons_of_neg (by simpa using h), List.find?_nil]
/-- every name has a type -/
def typedB (ts : List Ty) (ns : List ByteArray) : Bool := ns.all fun n => (tyOf ts n).isSome
/-- the error of type j, of class k -/
def errT (ts : List Ty) (j : Nat) : Int :=
  if nameB (tyAt ts j).name = false then 5 else if (tyOf (ts.take j) (tyAt ts j).name).isSome = true then 7 else if (tyAt ts j).syn < 1 ∨ 5 < (tyAt ts j).syn then 8 else 0
def errC (ts : List Ty) (cs : List Cl) (k : Nat) : Int :=
  if nameB (clAt cs k).name = false then 5
  else if (clOf (cs.take k) (clAt cs k).name).isSome = true then 7
  else if (clAt cs k).super.size ≠ 0 ∧ (clOf (cs.take k) (clAt cs k).super).isSome = false then 6
  else if 64 < (clAt cs k).must.length ∨ 64 < (clAt cs k).may.length then 3
  else if typedB ts (clAt cs k).must = false ∨ typedB ts (clAt cs k).may = false then 6 else 0
/-- the name 'class' -/
def classN : ByteArray := ⟨#[99, 108, 97, 115, 115]⟩
/-- the first error of a schema -/
def chkS (ts : List Ty) (cs : List Cl) : Int :=
  if 64 < ts.length ∨ 32 < cs.length then 3
  else if firstE (errT ts) ts.length ≠ 0 then firstE (errT ts) ts.length
  else if firstE (errC ts cs) cs.length ≠ 0 then firstE (errC ts cs) cs.length
  else match tyOf ts classN with
    | none => 6
    | some t => if t.syn = 1 then 0 else 8
/-- the types, the classes of a schema that is accepted -/
def soundT (ts : List Ty) (cs : List Cl) : List Ty := if chkS ts cs = 0 then ts else []
def soundC (ts : List Ty) (cs : List Cl) : List Cl := if chkS ts cs = 0 then cs else []
/-- a class and those above it: the next one lies ahead of it in the list -/
def lineG (l : List Cl) : Nat → ByteArray → List Cl
  | 0, _ => []
  | k + 1, n => match clOf l n with
    | none => []
    | some c => c :: lineG l k c.super
def lineS (l : List Cl) (n : ByteArray) : List Cl := lineG l (l.length + 1) n
def mustS (l : List Cl) (n : ByteArray) : List ByteArray := sortU ((lineS l n).flatMap fun c => c.must.map lowS)
def mayS (l : List Cl) (n : ByteArray) : List ByteArray := sortU ((lineS l n).flatMap fun c => (c.must ++ c.may).map lowS)
end Go.Proofs.YtonfkhkalodldabGreatDoor
end

section
/-
  Contracts of the specification's same, typeAt and classAt. No condition.
-/
set_option maxRecDepth 100000
set_option maxRecDepth 100000
namespace Go.Proofs.YtonfkhkalodldabGreatDoor
open Go.RowKit Go.PlainAid
/-- an index of the type, of the class of a name, or -1 -/
def TyIx (l : List Ty) (n : ByteArray) (r : Int) : Prop := (∃ k : Nat, r = k ∧ k < l.length ∧ tyOf l n = some (tyAt l k)) ∨ (r = -1 ∧ tyOf l n = none)
def ClIx (l : List Cl) (n : ByteArray) (r : Int) : Prop := (∃ k : Nat, r = k ∧ k < l.length ∧ clOf l n = some (clAt l k)) ∨ (r = -1 ∧ clOf l n = none)
end Go.Proofs.YtonfkhkalodldabGreatDoor
end

section
/-
  Contract of the laws' guard short at schema. No condition.
-/
set_option maxRecDepth 100000
set_option maxRecDepth 100000
namespace Go.Proofs.YtonfkhkalodldabGreatDoor
open Go.RowKit Go.PlainAid
end Go.Proofs.YtonfkhkalodldabGreatDoor
end

section
/-
  Contract of the specification's Order. No condition.
-/
set_option maxRecDepth 100000
namespace Go.Proofs.YtonfkhkalodldabGreatDoor
open Go.RowKit Go.PlainAid
end Go.Proofs.YtonfkhkalodldabGreatDoor
end

section
/-
  Classes and types in slices of the call's own: their cells, appends, what reads as a list of them. Condition: at most 1000000000 of them.
-/
set_option maxRecDepth 100000
set_option maxRecDepth 100000
namespace Go.Proofs.YtonfkhkalodldabGreatDoor
open Go.RowKit Go.PlainAid
/-! ### lists of records of k cells -/
theorem flat_len {α β : Type} (f : α → List β) (k : Nat) (hf : ∀ x, (f x).length = k) : ∀ l : List α, (l.flatMap f).length = l.length * k
  | [] => by simp
  | x :: l => by rw [List.flatMap_cons, List.length_append, hf, flat_len f k hf l, List.length_cons, Nat.succ_mul]; omega
theorem flat_at {α β : Type} (f : α → List β) (k : Nat) (hf : ∀ x, (f x).length = k) (d : α) : ∀ (l : List α) (j i : Nat), j < l.length → i < k → (l.flatMap f)[j * k + i]? = (f (l.getD j d))[i]?
  | [], j, i, h, _ => absurd h (Nat.not_lt_zero _)
  | x :: l, 0, i, _, hi => by
    rw [List.flatMap_cons, List.getElem?_append_left (by rw [hf]; omega), Nat.zero_mul, Nat.zero_add]; rfl
  | x :: l, j + 1, i, h, hi => by
    rw [List.flatMap_cons, List.getElem?_append_right (by rw [hf, Nat.succ_mul]; omega), hf, show (j + 1) * k + i - k = j * k + i by rw [Nat.succ_mul]; omega]
    exact flat_at f k hf d l j i (by simpa using h) hi
/-! ### classes -/
/-- a class as a value: what it is, the heads of its two lists -/
structure Cv where
  cl : Cl
  hm : Value
  hy : Value
instance : Inhabited Cv := ⟨⟨default, .slice none 0 0, .slice none 0 0⟩⟩
def cvC (c : Cv) : List Value := [.string c.cl.name, .string c.cl.super, c.hm, c.hy]
def cvV (c : Cv) : Value := .agg #[.string c.cl.name, .string c.cl.super, c.hm, c.hy]
def CvOk (w : World) (c : Cv) : Prop := Hdr w c.hm c.cl.must ∧ Hdr w c.hy c.cl.may
theorem CvOk.below {w w' : World} {c : Cv} (h : CvOk w c) (hb : Below w.heap.size w w') : CvOk w' c := ⟨h.1.below hb, h.2.below hb⟩
def ccells (l : List Cv) : List Value := l.flatMap cvC
def ccls (l : List Cv) : List Cl := l.map (·.cl)
theorem ccells_snoc (l : List Cv) (c : Cv) : ccells (l ++ [c]) = ccells l ++ cvC c := by simp [ccells]
theorem ccls_snoc (l : List Cv) (c : Cv) : ccls (l ++ [c]) = ccls l ++ [c.cl] := by simp [ccls]
theorem ccls_len (l : List Cv) : (ccls l).length = l.length := by simp [ccls]
theorem ccells_one {w : World} {l : List Cv} (h : ∀ c ∈ l, CvOk w c) : ∀ u ∈ ccells l, u.oneCell' = true := by
  intro u hu
  obtain ⟨c, hc, hu⟩ := List.mem_flatMap.1 hu
  simp only [cvC, List.mem_cons, List.not_mem_nil, or_false] at hu
  rcases hu with rfl | rfl | rfl | rfl
  · rfl
  · rfl
  · exact (h c hc).1.one
  · exact (h c hc).2.one
theorem info_class : (Tryz.prog.info? 106).map (fun i => (i.zero, i.size, i.bytes)) = some (some (.agg #[.string ⟨#[]⟩, .string ⟨#[]⟩, .slice none 0 0, .slice none 0 0]), 4, 80) := by kernel_rfl
theorem cells_four_new (w : World) (x y z u : Value) (t : TypeId) : ∀ j v, [x, y, z, u][j]? = some v → (w.alloc (.cells #[x, y, z, u] t)).cell? ((⟨w.heap.size, 0, none⟩ : Addr).add j) = some v := by
  intro j v hj
  have h : (w.alloc (.cells #[x, y, z, u] t)).heap[w.heap.size]? = some (.cells #[x, y, z, u] t (0, 0)) := heap_alloc_new w _
  rw [show (⟨w.heap.size, 0, none⟩ : Addr).add j = ⟨w.heap.size, j, none⟩ by rw [Go.WideShapes.add_plain, Nat.zero_add], Lib.cell_of_heap h]
  match j, hj with
  | 0, hj => simpa using hj
  | 1, hj => simpa using hj
  | 2, hj => simpa using hj
  | 3, hj => simpa using hj
  | j + 4, hj => simp at hj
theorem cells_three_new (w : World) (x y z : Value) (t : TypeId) : ∀ j v, [x, y, z][j]? = some v → (w.alloc (.cells #[x, y, z] t)).cell? ((⟨w.heap.size, 0, none⟩ : Addr).add j) = some v := by
  intro j v hj
  have h : (w.alloc (.cells #[x, y, z] t)).heap[w.heap.size]? = some (.cells #[x, y, z] t (0, 0)) := heap_alloc_new w _
  rw [show (⟨w.heap.size, 0, none⟩ : Addr).add j = ⟨w.heap.size, j, none⟩ by rw [Go.WideShapes.add_plain, Nat.zero_add], Lib.cell_of_heap h]
  match j, hj with
  | 0, hj => simpa using hj
  | 1, hj => simpa using hj
  | 2, hj => simpa using hj
  | j + 3, hj => simp at hj
/-- 'l = append(l, c)' where l is the call's own -/
theorem push_class {ops : Array Oper} {rest : List Oper} {o : Oper} {a : Act} {Q : Exit → Act → World → Prop} (wr : World) {base : Nat} {v : Value} {n : Nat} {xs : List Value} (hown : wr.ownsRow base 106 4 v n xs) (s x : Operand)
    (c : Cv) {w0 : World} (hc : CvOk w0 c) (hgd : o.guard = none)
    (ho : o.op = .call { callee := .builtin .append, args := #[s, x], argTypes := #[23, 23] })
    (hs : a.eval s = v) (hx : a.eval x = .slice (some ⟨wr.heap.size, 0, none⟩) 1 1) (hn : n + 1 ≤ 1000000000) (hbase : base ≤ wr.heap.size)
    (h : ∀ v' w', w'.ownsRow base 106 4 v' (n + 1) (xs ++ cvC c) → (wr.alloc (.cells #[.string c.cl.name, .string c.cl.super, c.hm, c.hy] 106)).grownBy w' v.ownBlock → (v'.ownBlock = v.ownBlock ∨ ∃ g, v'.ownBlock = some g ∧ wr.heap.size < g) → wpList Tryz.prog ops Q rest (a.put o.dst v') w') :
    wpList Tryz.prog ops Q (o :: rest) a (wr.alloc (.cells #[.string c.cl.name, .string c.cl.super, c.hm, c.hy] 106)) := by
  obtain ⟨i0, hi, hz0, hz1, hz2⟩ := info_parts info_class
  refine wpList_append_own_at _ hgd s x 23 ho base 106 i0 (.agg #[.string ⟨#[]⟩, .string ⟨#[]⟩, .slice none 0 0, .slice none 0 0]) 4 80 Tryz.underlying23 hi hz0 hz1 hz2 rfl (by decide) v n xs hs (hown.alloc _) ⟨wr.heap.size, 0, none⟩ 1 1 (cvC c) hx rfl
    (cells_four_new _ _ _ _ _ _) (by
      have := ccells_one (w := w0) (l := [c]) (fun d hd => by rw [List.mem_singleton.1 hd]; exact hc)
      simpa [ccells] using this) (by unfold maxLen; omega) (by omega) (by simp; omega) ?_
  intro v' w' h1 h2 _ h4
  refine h v' w' h1 h2 ?_
  rcases h4 with h4 | h4
  · exact .inl h4
  · exact .inr ⟨_, h4, by simp⟩
/-! ### types -/
def tyC (t : Ty) : List Value := [.string t.name, .int .i64 t.syn, .bool t.single]
def tyV (t : Ty) : Value := .agg #[.string t.name, .int .i64 t.syn, .bool t.single]
def ycells (l : List Ty) : List Value := l.flatMap tyC
end Go.Proofs.YtonfkhkalodldabGreatDoor
end

section
/-
  A map keyed by strings that a call has made, its elements held as they are, of whatever type: look-up, store. Condition: keys of a string's length, fewer than 2^62 entries.
-/
set_option maxRecDepth 100000
set_option maxRecDepth 100000
namespace Go.Proofs.YtonfkhkalodldabGreatDoor
open Go.RowKit Go.PlainAid Go.Maps
def rawE (v : Value) : Option (DataW Value × List MemPlace) := some (.held v, [])
/-- block b is a map of at most n entries that holds f k at the key k -/
def RawMap (w : World) (b n : Nat) (f : ByteArray → Option Value) : Prop :=
  ∃ D, w.ownsMap Tryz.prog 9 rawE b n D ∧ ∀ k, Maps.has D (klit k) = (f k).isSome ∧ ∀ v, f k = some v → ∀ z, D.atKey (klit k) z = .held v
theorem raw_made (w : World) : RawMap (w.alloc (.map #[] 0)) w.heap.size 0 fun _ => none :=
  ⟨.map [], World.ownsMap_made w _ _ _, fun k => ⟨rfl, fun v h => by cases h⟩⟩
theorem RawMap.lt {w : World} {b n : Nat} {f : ByteArray → Option Value} (h : RawMap w b n f) : b < w.heap.size := by
  obtain ⟨D, h, _⟩ := h; exact h.lt
theorem RawMap.kept {w w' : World} {b n : Nat} {f : ByteArray → Option Value} {row : Option Nat} (h : RawMap w b n f) (hg : w.grownBy w' row) (hne : some b ≠ row) : RawMap w' b n f := by
  obtain ⟨D, h, hf⟩ := h; exact ⟨D, h.kept hg hne, hf⟩
theorem RawMap.below {w w' : World} {b n : Nat} {f : ByteArray → Option Value} {B : Nat} (h : RawMap w b n f) (hb : Below B w w') (hB : b < B) : RawMap w' b n f := by
  obtain ⟨D, ⟨es, clock, he, h1, h2⟩, hf⟩ := h
  exact ⟨D, ⟨es, clock, by rw [hb.block b hB]; exact he, h1, h2⟩, hf⟩
theorem RawMap.mono {w : World} {b n m : Nat} {f : ByteArray → Option Value} (h : RawMap w b n f) (hm : n ≤ m) : RawMap w b m f := by
  obtain ⟨D, h, hf⟩ := h; exact ⟨D, h.mono hm, hf⟩
/-- a map's value: nil, or a block -/
def MapVal (w : World) (mv : Option Nat) (f : ByteArray → Option Value) : Prop := (mv = none ∧ ∀ k, f k = none) ∨ ∃ b n, mv = some b ∧ RawMap w b n f
theorem MapVal.below {w w' : World} {mv : Option Nat} {f : ByteArray → Option Value} (h : MapVal w mv f) (hb : Below w.heap.size w w') : MapVal w' mv f := by
  rcases h with h | ⟨b, n, e, h⟩
  · exact .inl h
  · exact .inr ⟨b, n, e, h.below hb h.lt⟩
theorem MapVal.kept {w w' : World} {mv : Option Nat} {f : ByteArray → Option Value} {row : Option Nat} (h : MapVal w mv f) (hg : w.grownBy w' row) (hne : ∀ b, mv = some b → some b ≠ row) : MapVal w' mv f := by
  rcases h with h | ⟨b, n, e, h⟩
  · exact .inl h
  · exact .inr ⟨b, n, e, h.kept hg (hne b e)⟩
theorem MapVal.look_ok {w : World} {mv : Option Nat} {f : ByteArray → Option Value} {t e : TypeId} {z : Value} (h : MapVal w mv f) (ht : Tryz.prog.underlying t = some (.map 9 e)) (hz : (zeroValue e).run Tryz.prog w = .ok z w) (k : ByteArray) (hk : k.size ≤ maxLen) :
    (Instr.lookup t (.map mv) (.string k) true).run Tryz.prog w = .ok (.tuple #[(f k).getD z, .bool (f k).isSome]) w := by
  rcases h with ⟨rfl, hn⟩ | ⟨b, n, rfl, D, hm, hf⟩
  · rw [Maps.look_nil true (string_keyed Tryz.underlying9) ht hz (klit_key k hk), hn k]; rfl
  · obtain ⟨v, ps, hrun, hv⟩ := hm.look_ok (string_keyed Tryz.underlying9) ht hz (zd := .held z) rfl (klit_key k hk)
    rw [hrun, (hf k).1]
    have hv2 : DataW.held v = D.atKey (klit k) (.held z) := by
      unfold rawE at hv
      simp only [Option.some.injEq, Prod.mk.injEq] at hv
      exact hv.1
    cases hfk : f k with
    | none =>
      have h0 := (hf k).1
      rw [hfk] at h0
      rw [atKey_of_not_has h0] at hv2
      injection hv2 with hv2
      rw [hv2]; rfl
    | some u =>
      rw [(hf k).2 u hfk] at hv2
      injection hv2 with hv2
      rw [hv2]; rfl
theorem MapVal.look {w : World} {mv : Option Nat} {f : ByteArray → Option Value} {t e : TypeId} {z : Value} (h : MapVal w mv f) (ht : Tryz.prog.underlying t = some (.map 9 e)) (hz : (zeroValue e).run Tryz.prog w = .ok z w) (k : ByteArray) (hk : k.size ≤ maxLen) :
    (Instr.lookup t (.map mv) (.string k) false).run Tryz.prog w = .ok ((f k).getD z) w := by
  rcases h with ⟨rfl, hn⟩ | ⟨b, n, rfl, D, hm, hf⟩
  · rw [Maps.look_nil false (string_keyed Tryz.underlying9) ht hz (klit_key k hk), hn k]; rfl
  · obtain ⟨v, ps, hrun, hv⟩ := hm.lookup (string_keyed Tryz.underlying9) ht hz (zd := .held z) rfl (klit_key k hk)
    rw [hrun]
    have hv2 : DataW.held v = D.atKey (klit k) (.held z) := by
      unfold rawE at hv
      simp only [Option.some.injEq, Prod.mk.injEq] at hv
      exact hv.1
    cases hfk : f k with
    | none =>
      have h0 := (hf k).1
      rw [hfk] at h0
      rw [atKey_of_not_has h0] at hv2
      injection hv2 with hv2
      rw [hv2]; rfl
    | some u =>
      rw [(hf k).2 u hfk] at hv2
      injection hv2 with hv2
      rw [hv2]; rfl
def setO (f : ByteArray → Option Value) (k : ByteArray) (v : Value) (j : ByteArray) : Option Value := if j = k then some v else f j
theorem RawMap.store {w : World} {b n : Nat} {f : ByteArray → Option Value} {t e : TypeId} (h : RawMap w b n f) (ht : Tryz.prog.underlying t = some (.map 9 e)) (hn : n < maxLen) (k : ByteArray) (hk : k.size ≤ maxLen) (v : Value) :
    ∃ w', (Instr.mapUpdate t (.map (some b)) (.string k) v).run Tryz.prog w = .ok () w' ∧ RawMap w' b (n + 1) (setO f k v) ∧ w.grownBy w' (some b) := by
  obtain ⟨D, hm, hf⟩ := h
  obtain ⟨w', hrun, hm', hg⟩ := hm.update (string_keyed Tryz.underlying9) ht hn (klit_key k hk) (val := v) (d := .held v) (ps := []) rfl
  refine ⟨w', hrun, ⟨_, hm', fun j => ?_⟩, hg⟩
  unfold setO
  by_cases e : j = k
  · subst e
    rw [if_pos rfl]
    refine ⟨has_put_same hm.isMap (by unfold klit; trivial) _, fun u hu z => ?_⟩
    obtain rfl := Option.some.inj hu
    exact atKey_put_same hm.isMap (by unfold klit; trivial) _ _
  · rw [if_neg e]
    have hne : klit j ≠ klit k := fun h => e (klit_one h)
    exact ⟨by rw [has_put_other hne]; exact (hf j).1, fun u hu z => by rw [atKey_put_other hne]; exact (hf j).2 u hu z⟩
end Go.Proofs.YtonfkhkalodldabGreatDoor
end

section
/-
  The table of a schema: maps from names in lower case to types and to classes; what a look-up gives, what a store leaves. Condition: names of a string's length.
-/
set_option maxRecDepth 100000
set_option maxRecDepth 100000
namespace Go.Proofs.YtonfkhkalodldabGreatDoor
open Go.RowKit Go.PlainAid Go.Maps
def zeroTy : Ty := ⟨⟨#[]⟩, 0, false⟩
def zeroCv : Cv := ⟨⟨⟨#[]⟩, ⟨#[]⟩, [], []⟩, .slice none 0 0, .slice none 0 0⟩
def zeroTyV : Value := .agg #[.string ⟨#[]⟩, .int .i64 0, .bool false]
def zeroClV : Value := .agg #[.string ⟨#[]⟩, .string ⟨#[]⟩, .slice none 0 0, .slice none 0 0]
/-- the map of types: at the name in lower case of each type, the type -/
def TMap (w : World) (mv : Option Nat) (ts : List Ty) : Prop := ∃ f, MapVal w mv f ∧ ∀ n, f (lowS n) = (tyOf ts n).map tyV
/-- the map of classes; what their lists hold is read in the world w0 -/
def CMap (w0 w : World) (mv : Option Nat) (cs : List Cl) : Prop :=
  ∃ f, MapVal w mv f ∧ ∀ n, (clOf cs n = none → f (lowS n) = none) ∧ ∀ c, clOf cs n = some c → ∃ d : Cv, d.cl = c ∧ CvOk w0 d ∧ f (lowS n) = some (cvV d)
theorem TMap.below {w w' : World} {mv : Option Nat} {ts : List Ty} (h : TMap w mv ts) (hb : Below w.heap.size w w') : TMap w' mv ts := by
  obtain ⟨f, h, k⟩ := h; exact ⟨f, h.below hb, k⟩
theorem CMap.below {w0 w w' : World} {mv : Option Nat} {cs : List Cl} (h : CMap w0 w mv cs) (hb : Below w.heap.size w w') : CMap w0 w' mv cs := by
  obtain ⟨f, h, k⟩ := h; exact ⟨f, h.below hb, k⟩
theorem CMap.base {w0 w1 w : World} {mv : Option Nat} {cs : List Cl} (h : CMap w0 w mv cs) (hb : Below w0.heap.size w0 w1) : CMap w1 w mv cs := by
  obtain ⟨f, h, k⟩ := h
  refine ⟨f, h, fun n => ⟨(k n).1, fun c hc => ?_⟩⟩
  obtain ⟨d, e, ho, hf⟩ := (k n).2 c hc
  exact ⟨d, e, ho.below hb, hf⟩
theorem TMap.kept {w w' : World} {mv : Option Nat} {ts : List Ty} {row : Option Nat} (h : TMap w mv ts) (hg : w.grownBy w' row) (hne : ∀ b, mv = some b → some b ≠ row) : TMap w' mv ts := by
  obtain ⟨f, h, k⟩ := h; exact ⟨f, h.kept hg hne, k⟩
theorem CMap.kept {w0 w w' : World} {mv : Option Nat} {cs : List Cl} {row : Option Nat} (h : CMap w0 w mv cs) (hg : w.grownBy w' row) (hne : ∀ b, mv = some b → some b ≠ row) : CMap w0 w' mv cs := by
  obtain ⟨f, h, k⟩ := h; exact ⟨f, h.kept hg hne, k⟩
theorem tmap_nil (w : World) : TMap w none [] := ⟨fun _ => none, .inl ⟨rfl, fun _ => rfl⟩, fun _ => rfl⟩
theorem cmap_nil (w0 w : World) : CMap w0 w none [] := ⟨fun _ => none, .inl ⟨rfl, fun _ => rfl⟩, fun _ => ⟨fun _ => rfl, fun c hc => by cases hc⟩⟩
theorem TMap.look {w : World} {mv : Option Nat} {ts : List Ty} (h : TMap w mv ts) (n : ByteArray) (hn : n.size ≤ 1000000000) :
    (Instr.lookup 85 (.map mv) (.string (lowS n)) true).run Tryz.prog w = .ok (.tuple #[((tyOf ts n).map tyV).getD zeroTyV, .bool (tyOf ts n).isSome]) w := by
  obtain ⟨f, h, k⟩ := h
  rw [h.look_ok Tryz.underlying85 (Tryz.zeroValue104 _) (lowS n) (by rw [lowS_size]; unfold maxLen; omega), k n]
  cases tyOf ts n <;> rfl
/-- a class looked up: the zero class where there is none -/
theorem CMap.look {w0 w : World} {mv : Option Nat} {cs : List Cl} (h : CMap w0 w mv cs) (n : ByteArray) (hn : n.size ≤ 1000000000) :
    ∃ v, (Instr.lookup 86 (.map mv) (.string (lowS n)) true).run Tryz.prog w = .ok (.tuple #[v, .bool (clOf cs n).isSome]) w ∧ (clOf cs n = none → v = zeroClV) ∧ ∀ c, clOf cs n = some c → ∃ d : Cv, d.cl = c ∧ CvOk w0 d ∧ v = cvV d := by
  obtain ⟨f, h, k⟩ := h
  refine ⟨(f (lowS n)).getD zeroClV, ?_, fun hc => by rw [(k n).1 hc]; rfl, fun c hc => ?_⟩
  · rw [h.look_ok Tryz.underlying86 (Tryz.zeroValue106 _) (lowS n) (by rw [lowS_size]; unfold maxLen; omega)]
    cases hc : clOf cs n with
    | none => rw [(k n).1 hc]; rfl
    | some c =>
      obtain ⟨d, e, ho, hf⟩ := (k n).2 c hc
      rw [hf]; rfl
  · obtain ⟨d, e, ho, hf⟩ := (k n).2 c hc
    exact ⟨d, e, ho, by rw [hf]; rfl⟩
/-- the tables while they are filled: blocks, at most so many entries -/
def TOpen (w : World) (b n : Nat) (ts : List Ty) : Prop := ∃ f, RawMap w b n f ∧ ∀ m, f (lowS m) = (tyOf ts m).map tyV
def COpen (w0 w : World) (b n : Nat) (cs : List Cl) : Prop :=
  ∃ f, RawMap w b n f ∧ ∀ n, (clOf cs n = none → f (lowS n) = none) ∧ ∀ c, clOf cs n = some c → ∃ d : Cv, d.cl = c ∧ CvOk w0 d ∧ f (lowS n) = some (cvV d)
theorem TOpen.map {w : World} {b n : Nat} {ts : List Ty} (h : TOpen w b n ts) : TMap w (some b) ts := by
  obtain ⟨f, h, k⟩ := h; exact ⟨f, .inr ⟨b, n, rfl, h⟩, k⟩
theorem COpen.map {w0 w : World} {b n : Nat} {cs : List Cl} (h : COpen w0 w b n cs) : CMap w0 w (some b) cs := by
  obtain ⟨f, h, k⟩ := h; exact ⟨f, .inr ⟨b, n, rfl, h⟩, k⟩
theorem TOpen.lt {w : World} {b n : Nat} {ts : List Ty} (h : TOpen w b n ts) : b < w.heap.size := by obtain ⟨f, h, _⟩ := h; exact h.lt
theorem COpen.lt {w0 w : World} {b n : Nat} {ts : List Cl} (h : COpen w0 w b n ts) : b < w.heap.size := by obtain ⟨f, h, _⟩ := h; exact h.lt
theorem TOpen.below {w w' : World} {b n : Nat} {ts : List Ty} {B : Nat} (h : TOpen w b n ts) (hb : Below B w w') (hB : b < B) : TOpen w' b n ts := by
  obtain ⟨f, h, k⟩ := h; exact ⟨f, h.below hb hB, k⟩
theorem COpen.below {w0 w w' : World} {b n : Nat} {cs : List Cl} {B : Nat} (h : COpen w0 w b n cs) (hb : Below B w w') (hB : b < B) : COpen w0 w' b n cs := by
  obtain ⟨f, h, k⟩ := h; exact ⟨f, h.below hb hB, k⟩
theorem TOpen.kept {w w' : World} {b n : Nat} {ts : List Ty} {row : Option Nat} (h : TOpen w b n ts) (hg : w.grownBy w' row) (hne : some b ≠ row) : TOpen w' b n ts := by
  obtain ⟨f, h, k⟩ := h; exact ⟨f, h.kept hg hne, k⟩
theorem COpen.kept {w0 w w' : World} {b n : Nat} {cs : List Cl} {row : Option Nat} (h : COpen w0 w b n cs) (hg : w.grownBy w' row) (hne : some b ≠ row) : COpen w0 w' b n cs := by
  obtain ⟨f, h, k⟩ := h; exact ⟨f, h.kept hg hne, k⟩
theorem topen_made (w : World) : TOpen (w.alloc (.map #[] 0)) w.heap.size 0 [] := ⟨_, raw_made w, fun m => rfl⟩
theorem copen_made (w0 w : World) : COpen w0 (w.alloc (.map #[] 0)) w.heap.size 0 [] := ⟨_, raw_made w, fun m => ⟨fun _ => rfl, fun c hc => by cases hc⟩⟩
/-- a type that has no elder of its name is put in -/
theorem TOpen.store {w : World} {b n : Nat} {ts : List Ty} (h : TOpen w b n ts) (t : Ty) (hn : n < 1100000) (hz : t.name.size ≤ 1000000000) (hT : tyOf ts t.name = none) :
    ∃ w', (Instr.mapUpdate 85 (.map (some b)) (.string (lowS t.name)) (tyV t)).run Tryz.prog w = .ok () w' ∧ TOpen w' b (n + 1) (ts ++ [t]) ∧ w.grownBy w' (some b) := by
  obtain ⟨f, h, k⟩ := h
  obtain ⟨w', hrun, hm, hg⟩ := h.store Tryz.underlying85 (by unfold maxLen; omega) (lowS t.name) (by rw [lowS_size]; unfold maxLen; omega) (tyV t)
  refine ⟨w', hrun, ⟨_, hm, fun m => ?_⟩, hg⟩
  rw [tyOf_snoc]
  unfold setO
  by_cases e : lowS m = lowS t.name
  · have : tyOf ts m = none := by rw [← tyOf_low, e, tyOf_low]; exact hT
    rw [if_pos e, this, if_pos e.symm]; rfl
  · rw [if_neg e, k m, if_neg (fun h => e h.symm), Option.or_none]
theorem COpen.store {w0 w : World} {b n : Nat} {cs : List Cl} (h : COpen w0 w b n cs) (d : Cv) (hd : CvOk w0 d) (hn : n < 1100000) (hz : d.cl.name.size ≤ 1000000000) (hT : clOf cs d.cl.name = none) :
    ∃ w', (Instr.mapUpdate 86 (.map (some b)) (.string (lowS d.cl.name)) (cvV d)).run Tryz.prog w = .ok () w' ∧ COpen w0 w' b (n + 1) (cs ++ [d.cl]) ∧ w.grownBy w' (some b) := by
  obtain ⟨f, h, k⟩ := h
  obtain ⟨w', hrun, hm, hg⟩ := h.store Tryz.underlying86 (by unfold maxLen; omega) (lowS d.cl.name) (by rw [lowS_size]; unfold maxLen; omega) (cvV d)
  refine ⟨w', hrun, ⟨_, hm, fun m => ?_⟩, hg⟩
  rw [clOf_snoc]
  unfold setO
  by_cases e : lowS m = lowS d.cl.name
  · have : clOf cs m = none := by rw [← clOf_low, e, clOf_low]; exact hT
    rw [if_pos e, this, if_pos e.symm]
    refine ⟨(fun h => by cases h), fun c hc => ⟨d, ?_, hd, rfl⟩⟩
    simpa using hc
  · rw [if_neg e, if_neg (fun h => e h.symm), Option.or_none]
    exact k m
end Go.Proofs.YtonfkhkalodldabGreatDoor
end
