/-
  Texts of the schema layer and of those beneath it, joined: AttL, AttFrame, AttStrs, AttIns, AttMem, AttTw, AttChk, OpenR, ShelfK, AttKeys. Conditions stand at each contract.
-/
import Derived.Lib.Bytealg
import Derived.WalkKit
import Derived.ProofKit
import Derived.OpenShut
import Derived.SliceStrings
import Derived.Deep.RegionHeld3
import Derived.Deep.AppendLies
import Derived.Deep.SlicePairs
import Derived.SizedLaws
import Derived.Shelf.SlIter.Nil
import Derived.Shelf.SortM.Plain
import Derived.Shelf.SortM.SortNone
import Derived.Test.YtclfjdnemafmeaaGreatDoorRows
import Derived.Test.YtclfjdnemafmeaaGreatDoorProg
import Derived.Test.YtclfjdnemafmeaaGreatDoorQ01
import Derived.Test.YtclfjdnemafmeaaGreatDoorQ02
set_option linter.unusedVariables false
set_option linter.unusedSimpArgs false
set_option linter.unnecessarySimpa false

section
/-
  Lists of attributes as values: ascending lists of strings without doubles, the normal form, and what determines it.
-/
set_option maxRecDepth 100000
namespace Go.Proofs.YtclfjdnemafmeaaGreatDoor
open Go.RowKit Go.PlainAid
structure Ord3 {α : Type} (f : α → α → Int) : Prop where
  range : ∀ a b, f a b = -1 ∨ f a b = 0 ∨ f a b = 1
  anti : ∀ a b, f b a = - f a b
  zero : ∀ a b, f a b = 0 ↔ a = b
  trans : ∀ a b c, f a b ≤ 0 → f b c ≤ 0 → f a c ≤ 0
theorem cmpS_ord : Ord3 cmpS :=
  ⟨fun a b => cb_range _ _, fun a b => cb_anti _ _, fun a b => by unfold cmpS; rw [cb_zero]; exact ⟨ba_ext, fun e => by rw [e]⟩, fun a b c h1 h2 => cb_trans _ _ _ h1 h2⟩
theorem cs_irrefl (a : ByteArray) : ¬ cmpS a a < 0 := by have := (cmpS_ord.zero a a).2 rfl; omega
theorem cs_trans {a b c : ByteArray} (h1 : cmpS a b < 0) (h2 : cmpS b c < 0) : cmpS a c < 0 := by
  have h := cmpS_ord.trans a b c (by omega) (by omega)
  by_cases e : cmpS a c = 0
  · have k := (cmpS_ord.zero a c).1 e
    subst k
    have := cmpS_ord.anti a b
    omega
  · omega
theorem cs_asymm {a b : ByteArray} (h : cmpS a b < 0) : ¬ cmpS b a < 0 := by have := cmpS_ord.anti a b; omega
theorem cs_tri (a b : ByteArray) : cmpS a b < 0 ∨ a = b ∨ cmpS b a < 0 := by
  have h1 := cmpS_ord.range a b
  have h2 := cmpS_ord.anti a b
  have h3 := cmpS_ord.zero a b
  by_cases h : cmpS a b = 0
  · exact .inr (.inl (h3.1 h))
  · omega
theorem cs_ne {a b : ByteArray} (h : cmpS a b < 0) : a ≠ b := fun e => by subst e; exact cs_irrefl _ h
/-! ### ascending lists without doubles -/
def Asc (l : List ByteArray) : Prop := l.Pairwise fun a b => cmpS a b < 0
def insS : List ByteArray → ByteArray → List ByteArray
  | [], s => [s]
  | x :: r, s => if cmpS x s < 0 then x :: insS r s else if x = s then x :: r else s :: x :: r
theorem insS_mem {x s : ByteArray} : ∀ {l : List ByteArray}, x ∈ insS l s ↔ x ∈ l ∨ x = s
  | [] => by simp [insS]
  | y :: r => by
    unfold insS
    by_cases h : cmpS y s < 0
    · rw [if_pos h, List.mem_cons, List.mem_cons, insS_mem, or_assoc]
    · rw [if_neg h]
      by_cases e : y = s
      · rw [if_pos e]
        subst e
        simp only [List.mem_cons]
        exact ⟨fun k => k.elim (fun k => .inr k) (fun k => .inl (.inr k)), fun k => k.elim id .inl⟩
      · rw [if_neg e]
        simp only [List.mem_cons]
        exact ⟨fun k => k.elim .inr .inl, fun k => k.elim .inr .inl⟩
theorem insS_asc {s : ByteArray} : ∀ {l : List ByteArray}, Asc l → Asc (insS l s)
  | [], _ => List.pairwise_singleton _ _
  | y :: r, h => by
    have h' := List.pairwise_cons.1 h
    unfold insS
    by_cases hy : cmpS y s < 0
    · rw [if_pos hy]
      refine List.pairwise_cons.2 ⟨fun x hx => ?_, insS_asc h'.2⟩
      rcases insS_mem.1 hx with k | k
      · exact h'.1 x k
      · rw [k]; exact hy
    · rw [if_neg hy]
      by_cases e : y = s
      · rw [if_pos e]; exact h
      · rw [if_neg e]
        have hs : cmpS s y < 0 := (cs_tri y s).elim (fun k => absurd k hy) fun k => k.elim (fun k => absurd k e) id
        refine List.pairwise_cons.2 ⟨fun x hx => ?_, h⟩
        rcases List.mem_cons.1 hx with k | k
        · rw [k]; exact hs
        · exact cs_trans hs (h'.1 x k)
theorem asc_ext : ∀ {a b : List ByteArray}, Asc a → Asc b → (∀ x, x ∈ a ↔ x ∈ b) → a = b
  | [], [], _, _, _ => rfl
  | [], y :: r, _, _, h => absurd ((h y).2 (List.mem_cons_self ..)) (List.not_mem_nil)
  | x :: r, [], _, _, h => absurd ((h x).1 (List.mem_cons_self ..)) (List.not_mem_nil)
  | x :: a, y :: b, ha, hb, h => by
    have ha' := List.pairwise_cons.1 ha
    have hb' := List.pairwise_cons.1 hb
    have e : x = y := by
      rcases List.mem_cons.1 ((h x).1 (List.mem_cons_self ..)) with k | k
      · exact k
      · rcases List.mem_cons.1 ((h y).2 (List.mem_cons_self ..)) with j | j
        · exact j.symm
        · exact absurd (ha'.1 y j) (cs_asymm (hb'.1 x k))
    subst e
    rw [asc_ext ha'.2 hb'.2 fun z => ?_]
    constructor
    · intro hz
      rcases List.mem_cons.1 ((h z).1 (List.mem_cons_of_mem _ hz)) with k | k
      · exact absurd k.symm (cs_ne (ha'.1 z hz))
      · exact k
    · intro hz
      rcases List.mem_cons.1 ((h z).2 (List.mem_cons_of_mem _ hz)) with k | k
      · exact absurd k.symm (cs_ne (hb'.1 z hz))
      · exact k
def sortU (l : List ByteArray) : List ByteArray := l.foldl insS []
theorem foldl_mem {x : ByteArray} : ∀ (l a : List ByteArray), x ∈ l.foldl insS a ↔ x ∈ a ∨ x ∈ l
  | [], a => by simp
  | y :: r, a => by
    rw [List.foldl_cons, foldl_mem r, insS_mem, List.mem_cons, or_assoc]
theorem foldl_asc : ∀ (l a : List ByteArray), Asc a → Asc (l.foldl insS a)
  | [], _, h => h
  | _ :: r, _, h => by rw [List.foldl_cons]; exact foldl_asc r _ (insS_asc h)
theorem sortU_mem {x : ByteArray} {l : List ByteArray} : x ∈ sortU l ↔ x ∈ l := by unfold sortU; rw [foldl_mem]; simp
theorem sortU_asc (l : List ByteArray) : Asc (sortU l) := foldl_asc l [] List.Pairwise.nil
theorem sortU_snoc (l : List ByteArray) (s : ByteArray) : sortU (l ++ [s]) = insS (sortU l) s := by unfold sortU; rw [List.foldl_append]; rfl
theorem insS_len : ∀ (l : List ByteArray) (s : ByteArray), (insS l s).length ≤ l.length + 1
  | [], _ => Nat.le_refl _
  | x :: r, s => by
    unfold insS
    have := insS_len r s
    split
    · simpa using this
    · split <;> simp
theorem foldl_len : ∀ (l a : List ByteArray), (l.foldl insS a).length ≤ a.length + l.length
  | [], _ => Nat.le_refl _
  | y :: r, a => by
    rw [List.foldl_cons, List.length_cons]
    have h1 := foldl_len r (insS a y)
    have h2 := insS_len a y
    omega
theorem sortU_len (l : List ByteArray) : (sortU l).length ≤ l.length := by have := foldl_len l []; simpa [sortU] using this
theorem asc_nodup {l : List ByteArray} (h : Asc l) : l.Nodup := h.imp cs_ne
/-! ### attributes -/
abbrev At := ByteArray × List ByteArray
/-- .. whatever the letters' case -/
def Hl (l : List At) (n v : ByteArray) : Prop := ∃ a ∈ l, lowS a.1 = n ∧ v ∈ a.2
structure NF (l : List At) : Prop where
  asc : Asc (l.map (·.1))
  low : ∀ a ∈ l, lowS a.1 = a.1
  vasc : ∀ a ∈ l, Asc a.2
  ne : ∀ a ∈ l, a.2 ≠ []
/-- all values of the attributes with a name in small letters -/
def allV (l : List At) (n : ByteArray) : List ByteArray := (l.filter fun a => decide (lowS a.1 = n)).flatMap (·.2)
def vals (l : List At) (n : ByteArray) : List ByteArray := sortU (allV l n)
def names (l : List At) : List ByteArray := sortU ((l.filter fun a => !a.2.isEmpty).map fun a => lowS a.1)
/-- the normal form -/
def nf (l : List At) : List At := (names l).map fun n => (n, vals l n)
theorem allV_mem {l : List At} {n v : ByteArray} : v ∈ allV l n ↔ Hl l n v := by
  unfold allV Hl
  simp only [List.mem_flatMap, List.mem_filter, decide_eq_true_eq]
  exact ⟨fun ⟨a, ⟨h1, h2⟩, h3⟩ => ⟨a, h1, h2, h3⟩, fun ⟨a, h1, h2, h3⟩ => ⟨a, ⟨h1, h2⟩, h3⟩⟩
theorem vals_mem {l : List At} {n v : ByteArray} : v ∈ vals l n ↔ Hl l n v := by unfold vals; rw [sortU_mem, allV_mem]
theorem vals_asc (l : List At) (n : ByteArray) : Asc (vals l n) := sortU_asc _
theorem names_mem {l : List At} {n : ByteArray} : n ∈ names l ↔ ∃ v, Hl l n v := by
  unfold names Hl
  rw [sortU_mem, List.mem_map]
  constructor
  · rintro ⟨a, ha, e⟩
    rw [List.mem_filter] at ha
    cases h : a.2 with
    | nil => rw [h] at ha; simp at ha
    | cons v r => exact ⟨v, a, ha.1, e, by rw [h]; exact List.mem_cons_self ..⟩
  · rintro ⟨v, a, ha, e, hv⟩
    refine ⟨a, List.mem_filter.2 ⟨ha, ?_⟩, e⟩
    cases h : a.2 with
    | nil => rw [h] at hv; exact absurd hv List.not_mem_nil
    | cons v r => rfl
theorem names_vals {l : List At} {n : ByteArray} : n ∈ names l ↔ vals l n ≠ [] := by
  rw [names_mem]
  constructor
  · rintro ⟨v, hv⟩ e
    have := vals_mem.2 hv
    rw [e] at this
    exact absurd this List.not_mem_nil
  · intro h
    obtain ⟨v, hv⟩ := List.exists_mem_of_ne_nil _ h
    exact ⟨v, vals_mem.1 hv⟩
theorem nf_names (l : List At) : (nf l).map (·.1) = names l := by unfold nf; rw [List.map_map]; exact List.map_id _
theorem nf_mem {l : List At} {a : At} : a ∈ nf l ↔ a.2 = vals l a.1 ∧ a.2 ≠ [] := by
  unfold nf
  rw [List.mem_map]
  constructor
  · rintro ⟨n, hn, rfl⟩; exact ⟨rfl, names_vals.1 hn⟩
  · rintro ⟨h1, h2⟩
    refine ⟨a.1, names_vals.2 (h1 ▸ h2), ?_⟩
    rw [← h1]
theorem nf_NF (l : List At) : NF (nf l) where
  asc := by rw [nf_names]; exact sortU_asc _
  low a ha := by
    obtain ⟨h1, h2⟩ := nf_mem.1 ha
    rw [h1] at h2
    obtain ⟨v, hv⟩ := names_mem.1 (names_vals.2 h2)
    obtain ⟨b, _, e, _⟩ := hv
    rw [← e, lowS_low]
  vasc a ha := by rw [(nf_mem.1 ha).1]; exact vals_asc _ _
  ne a ha := (nf_mem.1 ha).2
end Go.Proofs.YtclfjdnemafmeaaGreatDoor
end

section
/-
  What the proofs of this seat share (its statements list no variable: rows, no cards): arguments that are only read, slices of strings that came in.
-/
set_option maxRecDepth 100000
namespace Go.Proofs.YtclfjdnemafmeaaGreatDoor
open Go.ChangeShapes Go.WideShapes Go.ChangeAt Go.RowKit
theorem own : ownKnob Tryz.prog.godebug = none := by kernel_rfl
theorem laidOut : laidOutB Tryz.prog = true := by kernel_rfl
/-- arguments that are only read read behind the call as before it -/
theorem trodAll_below {H : Type} {enc : TypeId × Value → H} {W W' : World} (hb : Below W.heap.size W W') : ∀ (ts : List TypeId) (vs : List Value) (ds : List (DataW H)) (ps : List MemPlace),
    (∀ t ∈ ts, Tryz.prog.readableRec t = true ∧ t < Tryz.prog.types.size) → DataW.TrodAll enc Tryz.prog W 0 (fun _ => true) true ts vs ds ps → (∀ x ∈ ps, x.block < W.heap.size) →
    DataW.TrodAll enc Tryz.prog W' 0 (fun b => decide (b < W.heap.size)) true ts vs ds ps
  | [], vs, ds, ps, _, h, _ => by
    obtain ⟨rfl, rfl, rfl⟩ := trodAll_nil h
    exact trodAll_mk0
  | t :: ts, vs, ds, ps, hr, h, hl => by
    obtain ⟨v, vs', d, ds', p, q, rfl, rfl, rfl, h0, r0⟩ := trodAll_cons h
    exact trodAll_cons_mk (Below.trod laidOut (hr t (by simp)).1 (hr t (by simp)).2 h0 hb (fun x hx => hl x (by simp [hx])))
      (trodAll_below hb ts vs' ds' q (fun t ht => hr t (by simp [ht])) r0 (fun x hx => hl x (by simp [hx])))
/-- a slice of strings that came in -/
def StrsAt (w : World) (ao : Option Addr) (n cap : Nat) (ps : List ByteArray) : Prop :=
  ps.length = n ∧ n ≤ cap ∧ cap ≤ maxLen ∧ (0 < n → ∃ b off, ao = some ⟨b, off, none⟩ ∧ IsStrs w b off ps)
theorem StrsAt.below {w w' : World} {ao : Option Addr} {n cap : Nat} {ps : List ByteArray} (h : StrsAt w ao n cap ps) (hb : Below w.heap.size w w') : StrsAt w' ao n cap ps :=
  ⟨h.1, h.2.1, h.2.2.1, fun hn => by
    obtain ⟨b, off, e, hi⟩ := h.2.2.2 hn
    exact ⟨b, off, e, hi.below hb hi.1⟩⟩
theorem cells_string : Tryz.prog.cellsOf 9 = 1 := by kernel_rfl
end Go.Proofs.YtclfjdnemafmeaaGreatDoor
end

section
/-
  Slices of strings that the call has made or that came in, and the contract of the specification's Same. No condition beyond sizes.
-/
set_option maxRecDepth 100000
namespace Go.Proofs.YtclfjdnemafmeaaGreatDoor
open Go.RowKit Go.PlainAid
/-- the cells of strings -/
def scells (l : List ByteArray) : List Value := l.map Value.string
theorem scells_snoc (l : List ByteArray) (p : ByteArray) : scells (l ++ [p]) = scells l ++ [.string p] := by simp [scells]
theorem info_string : (Tryz.prog.info? 9).map (fun i => (i.zero, i.size, i.bytes)) = some (some (.string ⟨#[]⟩), 1, 16) := by kernel_rfl
/-- 'l = append(l, s)' where l is the call's own -/
theorem push_str {ops : Array Oper} {rest : List Oper} {o : Oper} {a : Act} {Q : Exit → Act → World → Prop} (wr : World) {base : Nat} {v : Value} {n : Nat} {xs : List Value} (hown : wr.ownsRow base 9 1 v n xs) (s x : Operand)
    (p : ByteArray) (hgd : o.guard = none)
    (ho : o.op = .call { callee := .builtin .append, args := #[s, x], argTypes := #[36, 36] })
    (hs : a.eval s = v) (hx : a.eval x = .slice (some ⟨wr.heap.size, 0, none⟩) 1 1) (hn : n + 1 ≤ 1000000000) (hbase : base ≤ wr.heap.size)
    (h : ∀ v' w', w'.ownsRow base 9 1 v' (n + 1) (xs ++ [.string p]) → Below base wr w' → wpList Tryz.prog ops Q rest (a.put o.dst v') w') :
    wpList Tryz.prog ops Q (o :: rest) a (wr.alloc (.cells #[.string p] 9)) := by
  obtain ⟨i0, hi, hz0, hz1, hz2⟩ := info_parts info_string
  refine wpList_append_own _ hgd s x 36 ho base 9 i0 (.string ⟨#[]⟩) 1 16 Tryz.underlying36 hi hz0 hz1 hz2 rfl (by decide) v n xs hs (hown.alloc _) ⟨wr.heap.size, 0, none⟩ 1 1 [.string p] hx rfl
    (cell_one_new _ _ _) (by intro u hu; simp at hu; subst hu; rfl) (by unfold maxLen; omega) (by omega) (by simp; omega) ?_
  intro v' w' h1 h2 _
  refine h v' w' h1 ?_
  exact ((Below.refl base wr).alloc hbase _).grown h2 (by simp; omega) (fun k hk => (hown.lt k hk).1)
theorem own_below {w w' : World} {base : Nat} {e : TypeId} {size : Nat} {v : Value} {n : Nat} {xs : List Value} (h : w.ownsRow base e size v n xs) (hb : Below w.heap.size w w') : w'.ownsRow base e size v n xs :=
  h.kept (row := none) ⟨hb.os, hb.tape, hb.output, hb.size, fun k hk _ => hb.block k hk⟩ (by
    cases h : v.ownBlock
    · exact .inl rfl
    · exact .inr (by simp))
theorem strs_own {w : World} {base n : Nat} {v : Value} {l : List ByteArray} (h : w.ownsRow base 9 1 v n (scells l)) (hn : l.length = n) : ∃ ao cap, v = .slice ao n cap ∧ StrsAt w ao n cap l := by
  have h0 := h
  rcases h.2 with ⟨rfl, rfl⟩ | ⟨g, cap, cur, rfl, hb, hg, hc, hm, hcs, ht⟩
  · exact ⟨none, 0, rfl, hn, Nat.le_refl _, by unfold maxLen; omega, fun h => absurd h (Nat.lt_irrefl _)⟩
  · refine ⟨_, cap, rfl, hn, hc, hm, fun h1 => ⟨g, 0, rfl, ?_, fun j hj => ?_⟩⟩
    · rcases Nat.lt_or_ge g w.heap.size with h' | h'
      · exact h'
      · simp [Array.getElem?_eq_none h'] at hg
    · have := h0.cells (g := g) rfl j (.string (partAt l j)) (by
        unfold scells partAt
        rw [List.getElem?_map, List.getD_eq_getElem?_getD, List.getElem?_eq_getElem hj]; rfl)
      rw [Go.WideShapes.add_plain] at this
      exact this
/-- what lies at or above a block -/
def FreshA (B : Nat) (bo : Option Addr) : Prop := ∀ b off, bo = some ⟨b, off, none⟩ → B ≤ b
theorem StrsAt.keep {w w' : World} {ao : Option Addr} {n cap : Nat} {ps : List ByteArray} (h : StrsAt w ao n cap ps) (hs : w.heap.size ≤ w'.heap.size) (hk : ∀ b off, ao = some ⟨b, off, none⟩ → b < w.heap.size → w'.heap[b]? = w.heap[b]?) : StrsAt w' ao n cap ps :=
  ⟨h.1, h.2.1, h.2.2.1, fun hn => by
    obtain ⟨b, off, e, hi⟩ := h.2.2.2 hn
    refine ⟨b, off, e, Nat.lt_of_lt_of_le hi.1 hs, fun j hj => ?_⟩
    rw [← hi.2 j hj]
    exact World.cell?_of_block (a := ⟨b, off + j, none⟩) (hk b off e hi.1)⟩
/-- an element of a slice of strings: its cell in every later world -/
theorem StrsAt.at {w : World} {ao : Option Addr} {n cap : Nat} {ps : List ByteArray} (h : StrsAt w ao n cap ps) (hn : 0 < n) : ∃ b off, ao = some ⟨b, off, none⟩ ∧ b < w.heap.size ∧
    ∀ w', Below w.heap.size w w' → ∀ j, j < n → w'.cell? ⟨b, off + j, none⟩ = some (.string (partAt ps j)) := by
  obtain ⟨b, off, e, hi⟩ := h.2.2.2 hn
  exact ⟨b, off, e, hi.1, fun w' hb j hj => (hi.below hb hi.1).2 j (by rw [h.1]; exact hj)⟩
theorem StrsAt.drop {w : World} {b off n cap : Nat} {p : ByteArray} {r : List ByteArray} (h : StrsAt w (some ⟨b, off, none⟩) n cap (p :: r)) : StrsAt w (some ⟨b, off + 1, none⟩) (n - 1) (cap - 1) r := by
  obtain ⟨h1, h2, h3, h4⟩ := h
  have hl : r.length + 1 = n := h1
  refine ⟨by omega, by omega, by omega, fun hn => ?_⟩
  obtain ⟨b', off', e, hi⟩ := h4 (by omega)
  cases e
  refine ⟨b, off + 1, rfl, hi.1, fun j hj => ?_⟩
  have := hi.2 (j + 1) (by simpa using hj)
  rw [show off + 1 + j = off + (j + 1) by omega]
  exact this
theorem strs_ext {ps qs : List ByteArray} (h : ps.length = qs.length) (k : ∀ j, j < ps.length → partAt ps j = partAt qs j) : ps = qs := by
  apply List.ext_getElem h
  intro i h1 h2
  have := k i h1
  unfold partAt at this
  rwa [List.getD_eq_getElem?_getD, List.getD_eq_getElem?_getD, List.getElem?_eq_getElem h1, List.getElem?_eq_getElem h2] at this
end Go.Proofs.YtclfjdnemafmeaaGreatDoor
end

section
/-
  Contracts of the specification's has and Insert. Insert at an ascending list without doubles. No condition beyond sizes.
-/
set_option maxRecDepth 100000
namespace Go.Proofs.YtclfjdnemafmeaaGreatDoor
open Go.RowKit Go.PlainAid
theorem str_eq (a b : ByteArray) : (a.toList == b.toList) = decide (a = b) := by
  rw [Lib.toList_data, Lib.toList_data, Bool.eq_iff_iff, beq_iff_eq, decide_eq_true_eq]
  exact ⟨fun h => by rw [← Lib.mk_data a, ← Lib.mk_data b, h], fun h => by rw [h]⟩
theorem str_geq (t : TypeId) (a b : ByteArray) : binOp .geq t (.string a) (.string b) = pure (.bool !(Op.bytesLess a.toList b.toList)) := by simp [binOp, Op.stringOp]
theorem less_cmp : ∀ a b : List UInt8, Op.bytesLess a b = decide (Lib.compareBytes a b < 0)
  | [], [] => by simp [Op.bytesLess, Lib.compareBytes]
  | [], _ :: _ => by simp [Op.bytesLess, Lib.compareBytes]
  | _ :: _, [] => by simp [Op.bytesLess, Lib.compareBytes]
  | x :: a, y :: b => by
    unfold Op.bytesLess Lib.compareBytes
    rw [less_cmp a b]
    by_cases h : x < y
    · simp [h]
    · by_cases g : y < x
      · have hne : ¬ x = y := fun e => by subst e; exact h g
        simp [h, g, hne]
      · have he : x = y := by
          have h1 : ¬ x.toNat < y.toNat := fun k => h (UInt8.lt_iff_toNat_lt.2 k)
          have h2 : ¬ y.toNat < x.toNat := fun k => g (UInt8.lt_iff_toNat_lt.2 k)
          exact UInt8.toNat_inj.1 (by omega)
        simp [h, g, he]
theorem str_less (a b : ByteArray) : Op.bytesLess a.toList b.toList = decide (cmpS a b < 0) := by
  rw [less_cmp, Lib.toList_data, Lib.toList_data]; rfl
def memB (l : List ByteArray) (s : ByteArray) : Bool := l.any fun x => decide (x = s)
theorem memB_iff {l : List ByteArray} {s : ByteArray} : memB l s = true ↔ s ∈ l := by
  unfold memB
  rw [List.any_eq_true]
  exact ⟨fun ⟨x, h, e⟩ => by rw [← of_decide_eq_true e]; exact h, fun h => ⟨s, h, decide_eq_true rfl⟩⟩
set_option maxRecDepth 100000 in
set_option maxHeartbeats 2000000 in
theorem has_s (ao : Option Addr) (n cap : Nat) (ps : List ByteArray) (s : ByteArray) (w : World) (h : StrsAt w ao n cap ps) :
    Calls Tryz.prog 145 #[.slice ao n cap, .string s] w fun e w' => e = .returned (.bool (memB ps s)) ∧ w = w' := by
  obtain ⟨h1, h2, h3, h4⟩ := h
  subst h1
  unfold maxLen at h3
  have H4 := Lib.hid h4; clear h4
  go_enter Tryz.func145, Tryz.ntmps145
  go_wp2
  go_loop [5] (fun i => ∃ k : Nat, k ≤ ps.length ∧ i = .int .i64 k ∧ Hid (∀ j, j < k → partAt ps j ≠ s)) (fun i => ps.length - (intOf i).toNat)
  case atStart => exact ⟨0, Nat.zero_le _, rfl, Lib.hid (fun j hj => absurd hj (Nat.not_lt_zero _))⟩
  case round =>
    obtain ⟨k, hk, rfl, HA⟩ := hrel
    by_cases hlt : k < ps.length
    · obtain ⟨b, off, rfl, hs⟩ := H4.out (by omega)
      have hcell := hs.2 k hlt
      clear hs
      obtain ⟨p, hpe⟩ : ∃ p, p = partAt ps k := ⟨_, rfl⟩
      rw [← hpe] at hcell
      have HP := Lib.hid hpe; clear hpe
      have d1 : (k : Int) < (ps.length : Int) := by omega
      by_cases hps : p = s
      · have q1 : (p.toList == s.toList) = true := by rw [str_eq]; exact decide_eq_true hps
        have HE := Lib.hid (show memB ps s = true from memB_iff.2 (by
          rw [← hps, HP.out]; unfold partAt
          rw [List.getD_eq_getElem?_getD, List.getElem?_eq_getElem hlt]; exact List.getElem_mem hlt))
        clear hps
        go_wp2_with fail
        go_ret
        exact ⟨by rw [HE.out]; rfl, rfl⟩
      · have q1 : (p.toList == s.toList) = false := by rw [str_eq]; exact decide_eq_false hps
        have HN := Lib.hid hps
        clear hps
        go_wp2_with fail
        go_round
        case rel =>
          refine ⟨k + 1, by omega, by go_num, Lib.hid fun j hj => ?_⟩
          by_cases e : j = k
          · rw [e, ← HP.out]; exact HN.out
          · exact HA.out j (by omega)
        case measure => simp [intOf]; omega
    · have HE := Lib.hid (show memB ps s = false from Bool.eq_false_iff.2 fun hm0 => by
        obtain ⟨j, hj, e⟩ := List.getElem_of_mem (memB_iff.1 hm0)
        refine HA.out j (by omega) ?_
        unfold partAt
        rw [List.getD_eq_getElem?_getD, List.getElem?_eq_getElem hj]; exact e)
      go_wp2_with fail
      go_ret
      exact ⟨by rw [HE.out]; rfl, rfl⟩
/-! ### Insert -/
theorem insS_all {s : ByteArray} (r : List ByteArray) : ∀ (a : List ByteArray), (∀ x ∈ a, cmpS x s < 0) → insS (a ++ r) s = a ++ insS r s
  | [], _ => rfl
  | x :: a, h => by
    rw [List.cons_append]
    show (if cmpS x s < 0 then x :: insS (a ++ r) s else _) = _
    rw [if_pos (h x (List.mem_cons_self ..)), insS_all r a (fun y hy => h y (List.mem_cons_of_mem _ hy))]; rfl
theorem insS_done {s y : ByteArray} : ∀ (a : List ByteArray), (∃ x ∈ a, ¬ cmpS x s < 0) → insS (a ++ [y]) s = insS a s ++ [y]
  | [], h => by obtain ⟨x, hx, _⟩ := h; exact absurd hx List.not_mem_nil
  | x :: a, h => by
    rw [List.cons_append]
    show (if cmpS x s < 0 then x :: insS (a ++ [y]) s else if x = s then x :: (a ++ [y]) else s :: x :: (a ++ [y])) = (if cmpS x s < 0 then x :: insS a s else if x = s then x :: a else s :: x :: a) ++ [y]
    by_cases hx : cmpS x s < 0
    · rw [if_pos hx, if_pos hx, insS_done a]
      · rfl
      · obtain ⟨z, hz, hn⟩ := h
        rcases List.mem_cons.1 hz with k | k
        · exact absurd (k ▸ hx) hn
        · exact ⟨z, k, hn⟩
    · rw [if_neg hx, if_neg hx]
      by_cases e : x = s
      · rw [if_pos e, if_pos e]; rfl
      · rw [if_neg e, if_neg e]; rfl
theorem insS_one {s y : ByteArray} (h : ¬ cmpS y s < 0) : insS [y] s = if y = s then [s] else [s, y] := by
  show (if cmpS y s < 0 then _ else if y = s then [y] else [s, y]) = _
  rw [if_neg h]
  by_cases e : y = s
  · rw [if_pos e, if_pos e, e]
  · rw [if_neg e, if_neg e]
theorem take_snoc (l : List ByteArray) (k : Nat) (h : k < l.length) : l.take (k + 1) = l.take k ++ [partAt l k] := by
  unfold partAt
  rw [List.take_succ_eq_append_getElem h, List.getD_eq_getElem?_getD, List.getElem?_eq_getElem h]; rfl
theorem part_mem (l : List ByteArray) (k : Nat) (h : k < l.length) : partAt l k ∈ l := by
  unfold partAt
  rw [List.getD_eq_getElem?_getD, List.getElem?_eq_getElem h]; exact List.getElem_mem h
/-- what Insert has written behind k elements -/
def insAt (l : List ByteArray) (s : ByteArray) (k : Nat) (dn : Bool) (o : List ByteArray) : Prop :=
  (dn = false ∧ o = l.take k ∧ ∀ x ∈ l.take k, cmpS x s < 0) ∨ (dn = true ∧ o = insS (l.take k) s ∧ ∃ x ∈ l.take k, ¬ cmpS x s < 0)
theorem insAt_zero (l : List ByteArray) (s : ByteArray) : insAt l s 0 false [] := .inl ⟨rfl, by simp, by simp⟩
theorem insAt_len {l : List ByteArray} {s : ByteArray} {k : Nat} {o : List ByteArray} (h : insAt l s k false o) : o.length ≤ k := by
  rcases h with ⟨_, e, _⟩ | ⟨e, _⟩
  · rw [e, List.length_take]; omega
  · cases e
theorem insAt_low {l : List ByteArray} {s : ByteArray} {k : Nat} {o : List ByteArray} (h : insAt l s k false o) (hk : k < l.length) (hc : cmpS (partAt l k) s < 0) : insAt l s (k + 1) false (o ++ [partAt l k]) := by
  rcases h with ⟨_, e, ha⟩ | ⟨e, _⟩
  · refine .inl ⟨rfl, by rw [e, take_snoc l k hk], fun x hx => ?_⟩
    rw [take_snoc l k hk] at hx
    rcases List.mem_append.1 hx with j | j
    · exact ha x j
    · rw [List.mem_singleton.1 j]; exact hc
  · cases e
theorem insAt_same {l : List ByteArray} {s : ByteArray} {k : Nat} {o : List ByteArray} (h : insAt l s k false o) (hk : k < l.length) (hc : partAt l k = s) : insAt l s (k + 1) true (o ++ [s]) := by
  have hn : ¬ cmpS (partAt l k) s < 0 := by rw [hc]; exact cs_irrefl s
  rcases h with ⟨_, e, ha⟩ | ⟨e, _⟩
  · refine .inr ⟨rfl, ?_, partAt l k, by rw [take_snoc l k hk]; simp, hn⟩
    rw [take_snoc l k hk, insS_all _ _ ha, insS_one hn, if_pos hc, e]
  · cases e
theorem insAt_new {l : List ByteArray} {s : ByteArray} {k : Nat} {o : List ByteArray} (h : insAt l s k false o) (hk : k < l.length) (hn : ¬ cmpS (partAt l k) s < 0) (hc : ¬ partAt l k = s) : insAt l s (k + 1) true ((o ++ [s]) ++ [partAt l k]) := by
  rcases h with ⟨_, e, ha⟩ | ⟨e, _⟩
  · refine .inr ⟨rfl, ?_, partAt l k, by rw [take_snoc l k hk]; simp, hn⟩
    rw [take_snoc l k hk, insS_all _ _ ha, insS_one hn, if_neg hc, e]; simp
  · cases e
theorem insAt_more {l : List ByteArray} {s : ByteArray} {k : Nat} {o : List ByteArray} (ha : Asc l) (h : insAt l s k true o) (hk : k < l.length) : partAt l k ≠ s ∧ insAt l s (k + 1) true (o ++ [partAt l k]) := by
  rcases h with ⟨e, _⟩ | ⟨_, e, x, hx, hn⟩
  · cases e
  · have hlt : cmpS x (partAt l k) < 0 := by
      have h1 : Asc (l.take (k + 1)) := List.Pairwise.sublist (List.take_sublist _ _) ha
      rw [take_snoc l k hk] at h1
      exact (List.pairwise_append.1 h1).2.2 x hx _ (List.mem_singleton.2 rfl)
    refine ⟨fun e' => hn (e' ▸ hlt), .inr ⟨rfl, by rw [take_snoc l k hk, insS_done _ ⟨x, hx, hn⟩, e], x, by rw [take_snoc l k hk]; exact List.mem_append_left _ hx, hn⟩⟩
theorem insAt_end {l : List ByteArray} {s : ByteArray} {dn : Bool} {o : List ByteArray} (h : insAt l s l.length dn o) : insS l s = if dn then o else o ++ [s] := by
  rcases h with ⟨rfl, e, ha⟩ | ⟨rfl, e, _⟩
  · rw [List.take_length] at e ha
    have := insS_all (s := s) [] l ha
    rw [List.append_nil] at this
    rw [this, e]; rfl
  · rw [List.take_length] at e
    rw [← e]; rfl
set_option maxRecDepth 100000 in
set_option maxHeartbeats 4000000 in
theorem insert_s (ao : Option Addr) (n cap : Nat) (l : List ByteArray) (s : ByteArray) (w : World) (h : StrsAt w ao n cap l) (hn : n ≤ 1000000) (hA : Asc l) :
    Calls Tryz.prog 118 #[.slice ao n cap, .string s] w fun e w' => ∃ v, e = .returned v ∧ w'.ownsRow w.heap.size 9 1 v (insS l s).length (scells (insS l s)) ∧ Below w.heap.size w w' := by
  obtain ⟨h1, h2, h3, h4⟩ := h
  subst h1
  unfold maxLen at h3
  have H4 := Lib.hid h4; clear h4
  have HA := Lib.hid hA; clear hA
  go_enter Tryz.func118, Tryz.ntmps118
  go_wp2
  go_loopw [5, 6, 7] (fun v dn i wr => ∃ (k : Nat) (d : Bool) (o : List ByteArray), k ≤ l.length ∧ o.length ≤ k + 1 ∧ i = .int .i64 k ∧ dn = .bool d ∧ Hid (insAt l s k d o) ∧ wr.ownsRow w.heap.size 9 1 v o.length (scells o) ∧ Below w.heap.size w wr)
    (fun _ _ i _ => l.length - (intOf i).toNat)
  case atStart => exact ⟨0, false, [], Nat.zero_le _, Nat.zero_le _, rfl, rfl, Lib.hid (insAt_zero l s), World.ownsRow_nil _ _ _ _, Below.refl _ _⟩
  case round =>
    obtain ⟨k, d, o, hk, ho, rfl, rfl, HI, hown, hbl⟩ := hrel
    by_cases hlt : k < l.length
    · obtain ⟨b, off, rfl, hs⟩ := H4.out (by omega)
      have hcell := (hs.below hbl hs.1).2 k hlt
      have hblt := hs.1
      clear hs
      obtain ⟨p, hpe⟩ : ∃ p, partAt l k = p := ⟨_, rfl⟩
      have HIA := Lib.hid (fun h => insAt_low (l := l) (s := s) (k := k) (o := o) h hlt)
      have HIB := Lib.hid (fun h => insAt_same (l := l) (s := s) (k := k) (o := o) h hlt)
      have HIC := Lib.hid (fun h => insAt_new (l := l) (s := s) (k := k) (o := o) h hlt)
      have HID := Lib.hid (fun h => insAt_more (l := l) (s := s) (k := k) (o := o) HA.out h hlt)
      rw [hpe] at hcell HIA HIB HIC HID
      clear hpe
      have d1 : (k : Int) < (l.length : Int) := by omega
      have G := str_geq 9 p s
      rw [str_less] at G
      cases d
      · by_cases hc : cmpS p s < 0
        · rw [decide_eq_true hc] at G
          have q1 : (p.toList == s.toList) = false := by rw [str_eq]; exact decide_eq_false (cs_ne hc)
          have q2 : (p.toList != s.toList) = true := by unfold bne; rw [q1]; rfl
          have HX := Lib.hid (HIA.out HI.out hc)
          clear hc
          go_wp2_with (at_builtin; go_must (refine push_str _ hown (.tmp 34) (.tmp 39) p ?_ ?_ ?_ ?_ ?_ ?_ ?_; exact rfl; exact rfl; exact rfl; exact rfl; omega; exact hbl.size; intro v3 w3 hown3 hb3))
          go_roundw
          case rel => exact ⟨k + 1, false, o ++ [p], by omega, by simp; omega, by go_num, rfl, HX, by rw [scells_snoc, List.length_append]; exact hown3, hbl.trans hb3⟩
          case measure => simp [intOf]; omega
        · rw [decide_eq_false hc] at G
          by_cases he : p = s
          · have HX := Lib.hid (HIB.out HI.out he)
            clear hc HIA HIB HIC HID
            have q1 : (p.toList == s.toList) = true := by rw [str_eq]; exact decide_eq_true he
            have q2 : (p.toList != s.toList) = false := by unfold bne; rw [q1]; rfl
            clear he
            go_wp2_with (at_builtin; go_must (refine push_str _ hown (.tmp 24) (.tmp 26) s ?_ ?_ ?_ ?_ ?_ ?_ ?_; exact rfl; exact rfl; exact rfl; exact rfl; omega; exact hbl.size; intro v3 w3 hown3 hb3; have hcell3 := (hb3.cell (p := ⟨b, off + k, none⟩) (by have := hbl.size; omega)).trans hcell))
            go_roundw
            case rel => exact ⟨k + 1, true, o ++ [s], by omega, by simp; omega, by go_num, rfl, HX, by rw [scells_snoc, List.length_append]; exact hown3, hbl.trans hb3⟩
            case measure => simp [intOf]; omega
          · have q1 : (p.toList == s.toList) = false := by rw [str_eq]; exact decide_eq_false he
            have q2 : (p.toList != s.toList) = true := by unfold bne; rw [q1]; rfl
            have HX := Lib.hid (HIC.out HI.out hc he)
            have hok := insAt_len HI.out
            clear hc he
            have tok : True := trivial
            go_wp2_with (first
              | (at_builtin; have _t := tok; go_must (refine push_str _ hown (.tmp 24) (.tmp 26) s ?_ ?_ ?_ ?_ ?_ ?_ ?_; exact rfl; exact rfl; exact rfl; exact rfl; omega; exact hbl.size; intro v3 w3 hown3 hb3; clear tok; have hcell3 := (hb3.cell (p := ⟨b, off + k, none⟩) (by have := hbl.size; omega)).trans hcell))
              | (at_builtin; go_must (refine push_str _ hown3 (.tmp 34) (.tmp 39) p ?_ ?_ ?_ ?_ ?_ ?_ ?_; exact rfl; exact rfl; exact rfl; exact rfl; omega; exact (hbl.trans hb3).size; intro v4 w4 hown4 hb4)))
            go_roundw
            case rel => exact ⟨k + 1, true, (o ++ [s]) ++ [p], by omega, by simp; omega, by go_num, rfl, HX, by rw [scells_snoc, scells_snoc, List.length_append, List.length_append]; exact hown4, (hbl.trans hb3).trans hb4⟩
            case measure => simp [intOf]; omega
      · obtain ⟨hne, hx⟩ := HID.out HI.out
        have HX := Lib.hid hx
        have q1 : (p.toList == s.toList) = false := by rw [str_eq]; exact decide_eq_false hne
        have q2 : (p.toList != s.toList) = true := by unfold bne; rw [q1]; rfl
        clear hne hx G
        go_wp2_with (at_builtin; go_must (refine push_str _ hown (.tmp 34) (.tmp 39) p ?_ ?_ ?_ ?_ ?_ ?_ ?_; exact rfl; exact rfl; exact rfl; exact rfl; omega; exact hbl.size; intro v3 w3 hown3 hb3))
        go_roundw
        case rel => exact ⟨k + 1, true, o ++ [p], by omega, by simp; omega, by go_num, rfl, HX, by rw [scells_snoc, List.length_append]; exact hown3, hbl.trans hb3⟩
        case measure => simp [intOf]; omega
    · have hkl : k = l.length := by omega
      subst hkl
      have HE := Lib.hid (insAt_end HI.out)
      cases d
      · go_wp2_with (at_builtin; go_must (refine push_str _ hown (.tmp 43) (.tmp 45) s ?_ ?_ ?_ ?_ ?_ ?_ ?_; exact rfl; exact rfl; exact rfl; exact rfl; omega; exact hbl.size; intro v3 w3 hown3 hb3))
        go_ret
        have he : insS l s = o ++ [s] := HE.out
        exact ⟨v3, rfl, by rw [he, scells_snoc, List.length_append]; exact hown3, hbl.trans hb3⟩
      · go_wp2_with fail
        go_ret
        have he : insS l s = o := HE.out
        exact ⟨_, rfl, by rw [he]; exact hown, hbl⟩
end Go.Proofs.YtclfjdnemafmeaaGreatDoor
end

section
/-
  Attributes in memory: a slice of attributes that came in, read out of memory. No condition.
-/
set_option maxRecDepth 100000
namespace Go.Proofs.YtclfjdnemafmeaaGreatDoor
open Go.ChangeShapes Go.WideShapes Go.ChangeAt Go.RowKit
def atD (l : List At) (j : Nat) : At := l.getD j (⟨#[]⟩, [])
theorem at_get (l : List At) (j : Nat) (h : j < l.length) : atD l j = l[j] := by
  unfold atD; rw [List.getD_eq_getElem?_getD, List.getElem?_eq_getElem h]; rfl
theorem at_mem (l : List At) (j : Nat) (h : j < l.length) : atD l j ∈ l := by rw [at_get l j h]; exact List.getElem_mem h
theorem at_take (l : List At) (k : Nat) (h : k < l.length) : l.take (k + 1) = l.take k ++ [atD l k] := by
  rw [at_get l k h]; exact List.take_succ_eq_append_getElem h
/-- an attribute in memory: its name and its values -/
def AttAt (w : World) (b off : Nat) (a : At) : Prop :=
  w.cell? ⟨b, off, none⟩ = some (.string a.1) ∧ ∃ vo vn vc, w.cell? ⟨b, off + 1, none⟩ = some (.slice vo vn vc) ∧ StrsAt w vo vn vc a.2
theorem AttAt.below {w w' : World} {b off : Nat} {a : At} (h : AttAt w b off a) (hb : Below w.heap.size w w') : AttAt w' b off a := by
  obtain ⟨h0, vo, vn, vc, h1, h2⟩ := h
  exact ⟨cell_later hb h0, vo, vn, vc, cell_later hb h1, h2.below hb⟩
/-- a slice of attributes in memory -/
def AttrsAt (w : World) (ao : Option Addr) (n cap : Nat) (l : List At) : Prop :=
  l.length = n ∧ n ≤ cap ∧ cap ≤ maxLen ∧ (0 < n → ∃ b off, ao = some ⟨b, off, none⟩ ∧ b < w.heap.size ∧ ∀ j, j < n → AttAt w b (off + j * 2) (atD l j))
theorem AttrsAt.below {w w' : World} {ao : Option Addr} {n cap : Nat} {l : List At} (h : AttrsAt w ao n cap l) (hb : Below w.heap.size w w') : AttrsAt w' ao n cap l :=
  ⟨h.1, h.2.1, h.2.2.1, fun hn => by
    obtain ⟨b, off, e, hi, ha⟩ := h.2.2.2 hn
    exact ⟨b, off, e, Nat.lt_of_lt_of_le hi hb.size, fun j hj => (ha j hj).below hb⟩⟩
theorem cells_attr : Tryz.prog.cellsOf 64 = 2 := by kernel_rfl
end Go.Proofs.YtclfjdnemafmeaaGreatDoor
end

section
/-
  Contracts of the specification's twice and checkValues. Condition: strings of at most 1000000 bytes.
-/
set_option maxRecDepth 100000
namespace Go.Proofs.YtclfjdnemafmeaaGreatDoor
open Go.RowKit Go.PlainAid
/-- names and values are short -/
def SmallS (l : List ByteArray) : Prop := ∀ v ∈ l, v.size ≤ 1000000
def SmallA (l : List At) : Prop := ∀ a ∈ l, a.1.size ≤ 1000000 ∧ SmallS a.2
theorem two_step {w w1 w2 : World} {A B : Addr} {x y : Value} (h : w1.cell? A = some x ∧ w1.cell? B = some y ∧ Hid (Below w.heap.size w w1)) (hb : Below w1.heap.size w1 w2) :
    w2.cell? A = some x ∧ w2.cell? B = some y ∧ Hid (Below w.heap.size w w2) :=
  ⟨cell_later hb h.1, cell_later hb h.2.1, Lib.hid (h.2.2.out.trans (hb.mono h.2.2.out.size))⟩
/-- an attribute before number i has the same name -/
def twiceB (l : List At) (i : Nat) : Bool := (l.take i).any fun a => decide (lowS a.1 = lowS (atD l i).1)
theorem twice_true {l : List At} {i k : Nat} (hi : i < l.length) (hk : k < i) (h : lowS (atD l k).1 = lowS (atD l i).1) : twiceB l i = true := by
  unfold twiceB
  rw [List.any_eq_true]
  refine ⟨atD l k, ?_, decide_eq_true h⟩
  rw [at_get l k (by omega)]
  exact List.mem_take_iff_getElem.2 ⟨k, by omega, rfl⟩
theorem twice_false {l : List At} {i : Nat} (hi : i < l.length) (h : ∀ k, k < i → lowS (atD l k).1 ≠ lowS (atD l i).1) : twiceB l i = false := by
  rw [Bool.eq_false_iff]
  intro e
  unfold twiceB at e
  rw [List.any_eq_true] at e
  obtain ⟨a, ha, e⟩ := e
  obtain ⟨k, hk, rfl⟩ := List.mem_take_iff_getElem.1 ha
  refine h k (by omega) ?_
  rw [at_get l k (by omega)]
  exact of_decide_eq_true e
set_option maxRecDepth 100000 in
set_option maxHeartbeats 4000000 in
theorem twice_s (ao : Option Addr) (n cap i : Nat) (l : List At) (w : World) (h : AttrsAt w ao n cap l) (hi : i < n) (hS : SmallA l) :
    Calls Tryz.prog 107 #[.slice ao n cap, .int .i64 i] w fun e w' => e = .returned (.bool (twiceB l i)) ∧ Below w.heap.size w w' := by
  obtain ⟨h1, h2, h3, h4⟩ := h
  subst h1
  unfold maxLen at h3
  obtain ⟨b, off, rfl, hblt, ha⟩ := h4 (by omega)
  have HA := Lib.hid (fun j (hj : j < l.length) => (ha j hj).1)
  obtain ⟨q, hq⟩ : ∃ q, (atD l i).1 = q := ⟨_, rfl⟩
  have hqs : q.size ≤ 1000000 := by rw [← hq]; exact (hS _ (at_mem l i hi)).1
  have hci := HA.out i hi
  rw [hq] at hci
  have HS := Lib.hid hS
  have HT := Lib.hid (fun k => twice_true (l := l) (i := i) (k := k) hi)
  have HF := Lib.hid (twice_false (l := l) (i := i) hi)
  rw [hq] at HT HF
  clear hq ha hS
  obtain ⟨u, hu⟩ : ∃ u, lowS q = u := ⟨_, rfl⟩
  rw [hu] at HT HF
  have HU := Lib.hid hu
  clear hu
  have e0 : (i : Int) < (l.length : Int) := by omega
  go_enter Tryz.func107, Tryz.ntmps107
  go_wp2
  go_loopw [5] (fun j wr => ∃ k : Nat, k ≤ i ∧ j = .int .i64 k ∧ Hid (∀ j, j < k → lowS (atD l j).1 ≠ u) ∧ Below w.heap.size w wr) (fun j _ => i - (intOf j).toNat)
  case atStart => exact ⟨0, Nat.zero_le _, rfl, Lib.hid (fun j hj => absurd hj (Nat.not_lt_zero _)), Below.refl _ _⟩
  case round =>
    obtain ⟨k, hk, rfl, HN, hbl⟩ := hrel
    by_cases hlt : k < i
    · have hck0 := HA.out k (by omega)
      obtain ⟨p, hp⟩ : ∃ p, (atD l k).1 = p := ⟨_, rfl⟩
      have hps : p.size ≤ 1000000 := by rw [← hp]; exact (HS.out _ (at_mem l k (by omega))).1
      rw [hp] at hck0
      have hck := (hbl.cell (p := ⟨b, off + k * 2, none⟩) hblt).trans hck0
      have hci' := (hbl.cell (p := ⟨b, off + i * 2, none⟩) hblt).trans hci
      have HT1 := Lib.hid (HT.out k hlt)
      rw [hp] at HT1
      have HP := Lib.hid hp
      clear hp hck0 hci
      obtain ⟨t, ht⟩ : ∃ t, lowS p = t := ⟨_, rfl⟩
      rw [ht] at HT1
      have HTT := Lib.hid ht
      have HB : Hid (Below w.heap.size w wr.drew) := Lib.hid hbl.drew
      have d1 : (k : Int) < (i : Int) := by omega
      have d2 : (k : Int) < (l.length : Int) := by omega
      clear ht hbl
      by_cases htu : t = u
      · have q1 : (t.toList == u.toList) = true := by rw [str_eq]; exact decide_eq_true htu
        have HE := Lib.hid (HT1.out htu)
        clear htu
        go_wp2_with fail
        go_region_held3 (fun w' => w'.cell? ⟨b, off + k * 2, none⟩ = some (.string p) ∧ w'.cell? ⟨b, off + i * 2, none⟩ = some (.string q) ∧ Hid (Below w.heap.size w w'))
          (first | exact ⟨hck, hci', HB⟩ | exact two_step (by assumption) hb | go_keep)
          (first
            | (go_at_call 80; with_reducible refine (rLower_s p _ (by omega)).mono ?_; rintro e w' ⟨rfl, hb⟩; rw [HTT.out])
            | (go_at_call 80; with_reducible refine (rLower_s q _ (by omega)).mono ?_; rintro e w' ⟨rfl, hb⟩; rw [HU.out]))
        all_goals (go_wp2; go_ret; exact ⟨by rw [HE.out]; rfl, (show Hid (Below w.heap.size w _) by first | assumption | exact And.right (And.right (by assumption))).out⟩)
      · have q1 : (t.toList == u.toList) = false := by rw [str_eq]; exact decide_eq_false htu
        have HE := Lib.hid htu
        clear htu
        go_wp2_with fail
        go_region_held3 (fun w' => w'.cell? ⟨b, off + k * 2, none⟩ = some (.string p) ∧ w'.cell? ⟨b, off + i * 2, none⟩ = some (.string q) ∧ Hid (Below w.heap.size w w'))
          (first | exact ⟨hck, hci', HB⟩ | exact two_step (by assumption) hb | go_keep)
          (first
            | (go_at_call 80; with_reducible refine (rLower_s p _ (by omega)).mono ?_; rintro e w' ⟨rfl, hb⟩; rw [HTT.out])
            | (go_at_call 80; with_reducible refine (rLower_s q _ (by omega)).mono ?_; rintro e w' ⟨rfl, hb⟩; rw [HU.out]))
        go_wp2
        go_roundw
        case rel =>
          refine ⟨k + 1, by omega, by go_num, Lib.hid fun j hj => ?_, (show Hid (Below w.heap.size w _) by first | assumption | exact And.right (And.right (by assumption))).out⟩
          by_cases e : j = k
          · rw [e, HP.out, HTT.out]; exact HE.out
          · exact HN.out j (by omega)
        case measure => simp [intOf]; omega
    · have hki : k = i := by omega
      subst hki
      have HE := Lib.hid (HF.out HN.out)
      go_wp2_with fail
      go_ret
      exact ⟨by rw [HE.out]; rfl, hbl⟩
end Go.Proofs.YtclfjdnemafmeaaGreatDoor
end

section
/-
  The first error of values, as a function. No condition.
-/
set_option maxRecDepth 100000
namespace Go.Proofs.YtclfjdnemafmeaaGreatDoor
open Go.RowKit Go.PlainAid
/-- the first of n errors that is one -/
def firstE (f : Nat → Int) : Nat → Int
  | 0 => 0
  | n + 1 => if firstE f n = 0 then f n else firstE f n
theorem firstE_zero {f : Nat → Int} : ∀ {n : Nat}, (∀ j, j < n → f j = 0) → firstE f n = 0
  | 0, _ => rfl
  | n + 1, h => by
    unfold firstE
    rw [if_pos (firstE_zero fun j hj => h j (by omega))]
    exact h n (by omega)
theorem firstE_hit {f : Nat → Int} {k : Nat} (h : ∀ j, j < k → f j = 0) (hk : f k ≠ 0) : ∀ {n : Nat}, k < n → firstE f n = f k
  | 0, hn => absurd hn (Nat.not_lt_zero _)
  | n + 1, hn => by
    unfold firstE
    by_cases e : k = n
    · subst e; rw [if_pos (firstE_zero h)]
    · have := firstE_hit h hk (n := n) (by omega)
      rw [if_neg (by rw [this]; exact hk)]; exact this
/-- the error of value j: no value; among the old ones or the ones before it -/
def errV (vs old : List ByteArray) (j : Nat) : Int := if cleanB (partAt vs j) = false then 4 else if memB old (partAt vs j) = true ∨ memB (vs.take j) (partAt vs j) = true then 7 else 0
def chkV (vs old : List ByteArray) : Int := firstE (errV vs old) vs.length
theorem StrsAt.cut {w : World} {ao : Option Addr} {n cap : Nat} {ps : List ByteArray} (h : StrsAt w ao n cap ps) (i : Nat) (hi : i ≤ n) : StrsAt w ao i cap (ps.take i) := by
  obtain ⟨h1, h2, h3, h4⟩ := h
  refine ⟨by rw [List.length_take]; omega, by omega, h3, fun hn => ?_⟩
  obtain ⟨b, off, e, hb, hs⟩ := h4 (by omega)
  refine ⟨b, off, e, hb, fun j hj => ?_⟩
  rw [List.length_take] at hj
  rw [hs j (by omega)]
  unfold partAt
  rw [List.getD_eq_getElem?_getD, List.getD_eq_getElem?_getD, List.getElem?_take, if_pos (by omega)]
end Go.Proofs.YtclfjdnemafmeaaGreatDoor
end

section
/-
  Arguments of the laws, opened with the form's own reach: slices of strings, slices of attributes. No condition.
-/
set_option maxRecDepth 100000
set_option maxRecDepth 100000
namespace Go.Proofs.YtclfjdnemafmeaaGreatDoor
open Go.ChangeShapes Go.WideShapes Go.ChangeAt Go.RowKit Go.PlainAid
def RS (l : List ByteArray) : Prop := ∀ v ∈ l, v.size ≤ 140737488355328
def RA (l : List At) : Prop := ∀ a ∈ l, a.1.size ≤ 140737488355328 ∧ RS a.2
theorem wall_mem {H : Type} {P : Program} {e : TypeId} {d : DataW H} {n : Nat} : ∀ {l : List (DataW H)}, d ∈ l → n ∈ d.weights P e → n ∈ DataW.weightsAll P e l
  | x :: l, h, hn => by
    simp only [DataW.weightsAll, List.mem_append]
    rcases List.mem_cons.1 h with k | k
    · subst k; exact .inl hn
    · exact .inr (wall_mem k hn)
theorem slice_mem {H : Type} {P : Program} {t e : TypeId} {d : DataW H} {n : Nat} {el sp : List (DataW H)} (hu : P.underlying t = some (.slice e)) (h : d ∈ el) (hn : n ∈ d.weights P e) : n ∈ (DataW.slice el sp).weights P t := by
  simp only [DataW.weights, hu, List.mem_cons, List.mem_append]
  exact .inr (.inl (wall_mem h hn))
theorem reach_le {n : Nat} (h : n ≤ reachBytes) : n ≤ 140737488355328 := Nat.le_trans h (Nat.le_of_lt (Nat.lt_of_lt_of_eq reachBytes_lt (by decide)))
theorem str_len (s : ByteArray) : s.data.toList.length = s.size := by rw [Array.length_toList]; rfl
theorem strs_reach {H : Type} {ss : List ByteArray} {sp : List (DataW H)} (hz : ∀ n ∈ (DataW.slice (strs ss) sp).weights Tryz.prog 36, n ≤ reachBytes) : RS ss := by
  intro v hv
  refine reach_le (hz _ (slice_mem Tryz.underlying36 (d := .lit (.string v.data.toList)) (List.mem_map.2 ⟨v, hv, rfl⟩) ?_))
  simp only [DataW.weights, List.mem_singleton]
  exact (str_len v).symm
set_option maxRecDepth 100000 in
theorem trod_strsR {H : Type} {enc : TypeId × Value → H} {W : World} {v : Value} {x : DataW H × List MemPlace} {fuel : Nat}
    (hf : DataW.trod enc Tryz.prog W 0 (fun _ => true) true fuel 36 [v] = some x) (hz : ∀ n ∈ x.1.weights Tryz.prog 36, n ≤ reachBytes) : ∃ ao n cap ps, v = .slice ao n cap ∧ StrsAt W ao n cap ps ∧ RS ps := by
  rcases open_strings Tryz.underlying36 Tryz.underlying9 cells_string hf with ⟨hcs, hx⟩ | ⟨a, len, cap, ss, hcs, _, hl, hm, hzz, hx, hcell, hws⟩
  · injection hcs with h1 _
    exact ⟨none, 0, 0, [], h1, ⟨rfl, Nat.le_refl _, by unfold maxLen; omega, fun h => absurd h (by omega)⟩, fun v hv => (List.not_mem_nil hv).elim⟩
  · injection hcs with h1 _
    simp only [if_true] at hzz
    subst hx
    refine ⟨_, len, cap, ss.take len, h1, ⟨by rw [List.length_take]; omega, hl, hm, fun hn => ?_⟩, strs_reach hz⟩
    obtain ⟨b, off, spot⟩ := a
    have hspot : spot = none := by simpa [Addr.add] using World.cell?_spot (hcell 0 (by omega))
    subst hspot
    have h1 := hcell 0 (by omega)
    rw [add_plain] at h1
    refine ⟨b, off, rfl, World.block_lt_of_cell? W _ h1, fun j hj => ?_⟩
    rw [List.length_take] at hj
    rw [← add_plain, hcell j (by omega)]
    unfold partAt
    rw [List.getD_eq_getElem?_getD, List.getD_eq_getElem?_getD, List.getElem?_take, if_pos (by omega)]
theorem choose_attrsR {w : World} {b off len : Nat} {Q : At → Prop} (h : ∀ i, i < len → ∃ a : At, AttAt w b (off + i * 2) a ∧ Q a) : ∃ l : List At, l.length = len ∧ (∀ i, i < len → AttAt w b (off + i * 2) (atD l i)) ∧ ∀ a ∈ l, Q a := by
  induction len with
  | zero => exact ⟨[], rfl, fun i hi => absurd hi (Nat.not_lt_zero _), fun a ha => (List.not_mem_nil ha).elim⟩
  | succ n ih =>
    obtain ⟨l, hl, hp, hq⟩ := ih (fun i hi => h i (by omega))
    obtain ⟨a, ha, hqa⟩ := h n (by omega)
    refine ⟨l ++ [a], by simp [hl], fun i hi => ?_, fun x hx => (List.mem_append.1 hx).elim (hq x) fun k => by rw [List.mem_singleton.1 k]; exact hqa⟩
    by_cases e : i = n
    · subst e
      have e2 : atD (l ++ [a]) i = a := by
        unfold atD
        rw [List.getD_eq_getElem?_getD, List.getElem?_append_right (by omega), hl]; simp
      rw [e2]; exact ha
    · have e2 : atD (l ++ [a]) i = atD l i := by
        unfold atD
        rw [List.getD_eq_getElem?_getD, List.getD_eq_getElem?_getD, List.getElem?_append_left (by omega)]
      rw [e2]; exact hp i (by omega)
end Go.Proofs.YtclfjdnemafmeaaGreatDoor
end

section
/-
  DERIVED: THE SHELF's CONTRACTS AT THIS DUMP, IN PLAIN WORDS (tools/lay-plain.mjs out of 'TryzShelfKSrc.lean', which tools/lay-shelf.mjs wrote): THE SAME DECLARATIONS UNDER THE SAME NAMES: 'import', 'namespace', 'open', 'def', 'theorem' AND NOTHING ELSE: no command of the shelf's: FOR A HAND-IN. Each laying: the table of numbers ('.._ren') and one theorem, a field a fact of the dump's own or the kernel's comparison; each contract: ONE APPLICATION.
-/
namespace Go.Proofs
open Go.Shelf
def Tryz.keys_ren : Go.Shelf.Ren := ⟨fun | 7 => 168 | 10 => 206 | n => n, fun | 23 => 171 | 26 => 9 | 3 => 36 | 28 => 174 | 0 => 0 | 27 => 173 | 33 => 71 | 4 => 4 | n => n, fun | n => n⟩
theorem Tryz.keys : Go.Proofs.SlLaysZ.n7 Tryz.prog Tryz.keys_ren := {
  mixed := by kernel_rfl
  f7 := ⟨Tryz.f168.name, by decide, Tryz.func168.trans (congrArg some (by kernel_rfl))⟩
  f10 := ⟨Tryz.f206.name, by decide, Tryz.func206.trans (congrArg some (by kernel_rfl))⟩
  t0 := Tryz.underlying0
  a0 := Tryz.isAgg0
  z0 := Tryz.sizeOf0
  v0 := Tryz.zeroValue0
  t4 := Tryz.underlying4
  a4 := Tryz.isAgg4
  z4 := Tryz.sizeOf4
  v4 := Tryz.zeroValue4
  t23 := Tryz.underlying171
  a23 := Tryz.isAgg171
  z23 := Tryz.sizeOf171
  v23 := Tryz.zeroValue171
  t26 := Tryz.underlying9
  a26 := Tryz.isAgg9
  z26 := Tryz.sizeOf9
  v26 := Tryz.zeroValue9
  t27 := Tryz.underlying173
  a27 := Tryz.isAgg173
  z27 := Tryz.sizeOf173
  v27 := Tryz.zeroValue173
  t28 := Tryz.underlying174
  a28 := Tryz.isAgg174
  z28 := Tryz.sizeOf174
  v28 := Tryz.zeroValue174
  t33 := Tryz.underlying71
  a33 := Tryz.isAgg71
  z33 := Tryz.sizeOf71
  v33 := Tryz.zeroValue71 }
def Tryz.sorted_ren : Go.Shelf.Ren := ⟨fun | 6 => 167 | 8 => 205 | 9 => 120 | 11 => 233 | 13 => 154 | 12 => 153 | 23 => 190 | 24 => 191 | 14 => 181 | 15 => 182 | 16 => 183 | 17 => 184 | 18 => 185 | 19 => 186 | 20 => 187 | 21 => 188 | 22 => 189 | 25 => 220 | 26 => 221 | 27 => 222 | 28 => 223 | 29 => 224 | 30 => 225 | 31 => 238 | n => n, fun | 26 => 9 | 28 => 174 | 24 => 36 | 0 => 0 | 3 => 3 | 37 => 164 | 48 => 188 | 50 => 190 | 4 => 4 | 40 => 182 | 39 => 181 | 45 => 87 | 5 => 5 | 9 => 9 | 51 => 213 | 55 => 217 | 57 => 227 | 58 => 228 | 33 => 71 | n => n, fun | n => n⟩
theorem Tryz.sorted : Go.Proofs.SlLaysZ.n6 Tryz.prog Tryz.sorted_ren := {
  mixed := by kernel_rfl
  f6 := ⟨Tryz.f167.name, by decide, Tryz.func167.trans (congrArg some (by kernel_rfl))⟩
  f8 := ⟨Tryz.f205.name, by decide, Tryz.func205.trans (congrArg some (by kernel_rfl))⟩
  f11 := ⟨Tryz.f233.name, by decide, Tryz.func233.trans (congrArg some (by kernel_rfl))⟩
  t0 := Tryz.underlying0
  a0 := Tryz.isAgg0
  z0 := Tryz.sizeOf0
  v0 := Tryz.zeroValue0
  t24 := Tryz.underlying36
  a24 := Tryz.isAgg36
  z24 := Tryz.sizeOf36
  v24 := Tryz.zeroValue36
  t26 := Tryz.underlying9
  a26 := Tryz.isAgg9
  z26 := Tryz.sizeOf9
  v26 := Tryz.zeroValue9
  t28 := Tryz.underlying174
  a28 := Tryz.isAgg174
  z28 := Tryz.sizeOf174
  v28 := Tryz.zeroValue174
  i26 := by kernel_rfl }
def Tryz.sort_ren : Go.Shelf.Ren := ⟨fun | 6 => 120 | 8 => 154 | 9 => 153 | 19 => 190 | 20 => 191 | 21 => 181 | 22 => 182 | 23 => 183 | 24 => 184 | 25 => 185 | 26 => 186 | 27 => 187 | 28 => 188 | 29 => 189 | 36 => 220 | 31 => 221 | 32 => 222 | 37 => 223 | 38 => 224 | 39 => 225 | 41 => 238 | n => n, fun | 27 => 36 | 29 => 9 | 3 => 3 | 32 => 164 | 26 => 36 | 0 => 0 | 44 => 188 | 46 => 190 | 4 => 4 | 36 => 182 | 35 => 181 | 41 => 87 | 5 => 5 | 9 => 9 | 53 => 213 | 57 => 217 | 63 => 227 | 64 => 228 | n => n, fun | n => n⟩
theorem Tryz.sort : Go.Proofs.SlLaysM.n6 Tryz.prog Tryz.sort_ren := {
  mixed := by kernel_rfl
  f6 := ⟨Tryz.f120.name, by decide, Tryz.func120.trans (congrArg some (by kernel_rfl))⟩
  f8 := Tryz.func154.trans (congrArg some (by kernel_rfl))
  f9 := ⟨Tryz.f153.name, by decide, Tryz.func153.trans (congrArg some (by kernel_rfl))⟩
  f19 := Tryz.func190.trans (congrArg some (by kernel_rfl))
  f20 := Tryz.func191.trans (congrArg some (by kernel_rfl))
  f21 := ⟨Tryz.f181.name, by decide, Tryz.func181.trans (congrArg some (by kernel_rfl))⟩
  f22 := ⟨Tryz.f182.name, by decide, Tryz.func182.trans (congrArg some (by kernel_rfl))⟩
  f23 := ⟨Tryz.f183.name, by decide, Tryz.func183.trans (congrArg some (by kernel_rfl))⟩
  f24 := ⟨Tryz.f184.name, by decide, Tryz.func184.trans (congrArg some (by kernel_rfl))⟩
  f25 := ⟨Tryz.f185.name, by decide, Tryz.func185.trans (congrArg some (by kernel_rfl))⟩
  f26 := ⟨Tryz.f186.name, by decide, Tryz.func186.trans (congrArg some (by kernel_rfl))⟩
  f27 := ⟨Tryz.f187.name, by decide, Tryz.func187.trans (congrArg some (by kernel_rfl))⟩
  f28 := ⟨Tryz.f188.name, by decide, Tryz.func188.trans (congrArg some (by kernel_rfl))⟩
  f29 := ⟨Tryz.f189.name, by decide, Tryz.func189.trans (congrArg some (by kernel_rfl))⟩
  f31 := Tryz.func221.trans (congrArg some (by kernel_rfl))
  f32 := Tryz.func222.trans (congrArg some (by kernel_rfl))
  f36 := ⟨Tryz.f220.name, by decide, Tryz.func220.trans (congrArg some (by kernel_rfl))⟩
  f37 := ⟨Tryz.f223.name, by decide, Tryz.func223.trans (congrArg some (by kernel_rfl))⟩
  f38 := ⟨Tryz.f224.name, by decide, Tryz.func224.trans (congrArg some (by kernel_rfl))⟩
  f39 := ⟨Tryz.f225.name, by decide, Tryz.func225.trans (congrArg some (by kernel_rfl))⟩
  f41 := ⟨Tryz.f238.name, by decide, Tryz.func238.trans (congrArg some (by kernel_rfl))⟩
  t0 := Tryz.underlying0
  a0 := Tryz.isAgg0
  z0 := Tryz.sizeOf0
  v0 := Tryz.zeroValue0
  t3 := Tryz.underlying3
  a3 := Tryz.isAgg3
  z3 := Tryz.sizeOf3
  v3 := Tryz.zeroValue3
  t4 := Tryz.underlying4
  a4 := Tryz.isAgg4
  z4 := Tryz.sizeOf4
  v4 := Tryz.zeroValue4
  t5 := Tryz.underlying5
  a5 := Tryz.isAgg5
  z5 := Tryz.sizeOf5
  v5 := Tryz.zeroValue5
  t9 := Tryz.underlying9
  a9 := Tryz.isAgg9
  z9 := Tryz.sizeOf9
  v9 := Tryz.zeroValue9
  t26 := Tryz.underlying36
  a26 := Tryz.isAgg36
  z26 := Tryz.sizeOf36
  v26 := Tryz.zeroValue36
  t27 := Tryz.underlying36
  a27 := Tryz.isAgg36
  z27 := Tryz.sizeOf36
  v27 := Tryz.zeroValue36
  t29 := Tryz.underlying9
  a29 := Tryz.isAgg9
  z29 := Tryz.sizeOf9
  v29 := Tryz.zeroValue9
  t32 := Tryz.underlying164
  a32 := Tryz.isAgg164
  z32 := Tryz.sizeOf164
  v32 := Tryz.zeroValue164
  t35 := Tryz.underlying181
  a35 := Tryz.isAgg181
  z35 := Tryz.sizeOf181
  v35 := Tryz.zeroValue181
  t36 := Tryz.underlying182
  a36 := Tryz.isAgg182
  z36 := Tryz.sizeOf182
  v36 := Tryz.zeroValue182
  t41 := Tryz.underlying87
  a41 := Tryz.isAgg87
  z41 := Tryz.sizeOf87
  v41 := Tryz.zeroValue87
  t44 := Tryz.underlying188
  a44 := Tryz.isAgg188
  z44 := Tryz.sizeOf188
  v44 := Tryz.zeroValue188
  t46 := Tryz.underlying190
  a46 := Tryz.isAgg190
  z46 := Tryz.sizeOf190
  v46 := Tryz.zeroValue190
  t53 := Tryz.underlying213
  a53 := Tryz.isAgg213
  z53 := Tryz.sizeOf213
  v53 := Tryz.zeroValue213
  t57 := Tryz.underlying217
  a57 := Tryz.isAgg217
  z57 := Tryz.sizeOf217
  v57 := Tryz.zeroValue217
  t63 := Tryz.underlying227
  a63 := Tryz.isAgg227
  z63 := Tryz.sizeOf227
  v63 := Tryz.zeroValue227
  t64 := Tryz.underlying228
  a64 := Tryz.isAgg228
  z64 := Tryz.sizeOf228
  v64 := Tryz.zeroValue228 }
end Go.Proofs
end

section
/-
  The keys of a map from strings to slices of strings, in order: maps.Keys and slices.Sorted at this program. Condition: fewer than 1000000 keys.
-/
set_option maxRecDepth 100000
namespace Go.Proofs.YtclfjdnemafmeaaGreatDoor
open Go.RowKit Go.PlainAid Go.Maps Go.Sort Go.Shelf
theorem sorts_in (m : Nat) : AnyZ.SortsIn Tryz.prog Tryz.sorted_ren Fence.wide m :=
  ⟨fun blk off cap ss W hH hblk hsz => callsIn_wide.2 (AnyM.slices_Sort_string Tryz.sort blk off cap ss W hH hblk hsz),
   fun p cap W => callsIn_wide.2 (AnyM.slices_Sort_string_none Tryz.sort p cap W)⟩
theorem keys_s (mb : Option Nat) (W : World) :
    Calls Tryz.prog 168 #[.map mb] W fun e w' =>
      e = .returned (.func (.func 206) #[] #[.pointer (some ⟨W.heap.size, 0, none⟩)]) ∧ w' = W.alloc (.cells #[.map mb] 171) :=
  (callsIn_wide (n := 5)).1 (AnyZ.keys_in Tryz.keys Fence.wide 5 trivial rfl mb W)
set_option maxHeartbeats 1000000 in
theorem sorted_keys {H : Type} (b nn : Nat) (D0 : DataW H) (R : Value → Option (DataW H × List MemPlace)) (w : World) (hown : w.ownsMap Tryz.prog 9 R b nn D0) (hmax : Maps.size D0 ≤ 1000000) :
    Calls Tryz.prog 167 #[.func (.func 206) #[] #[.pointer (some ⟨w.heap.size, 0, none⟩)]] (w.alloc (.cells #[.map (some b)] 171)) fun e w' =>
      ∃ (v : Value) (ss : List (List UInt8)), e = .returned v ∧ ss.Perm (strKeys D0) ∧
      w'.ownsRow (w.heap.size + 1) 9 1 v ss.length (scells ((ss.mergeSort (fun x y => decide (x ≤ y))).map fun x => ⟨x.toArray⟩)) ∧ Below (w.heap.size + 1) (w.alloc (.cells #[.map (some b)] 171)) w' := by
  have hbl := hown.lt
  have hseq : SeqGives Fence.wide 2 Tryz.prog 206 #[.pointer (some ⟨w.heap.size, 0, none⟩)] encStr (fun ss => ss.Perm (strKeys D0)) (Maps.size D0) (w.alloc (.cells #[.map (some b)] 171)) :=
    AnyZ.keys_gives (ρ := Tryz.keys_ren) { Tryz.keys with } Fence.wide _ trivial rfl (by omega) w.heap.size b nn D0 _ (by simp) (by simp) (by
      obtain ⟨es, clock, hb, Ft, hs, hD⟩ := hown
      exact ⟨es, clock, (Below.heap_alloc _ _ b hbl).trans hb, Ft, hs, hD⟩)
  refine ((callsIn_wide (n := 5)).1 (AnyZ.sorted_in Tryz.sorted Fence.wide 5 trivial trivial trivial trivial rfl (by omega) (sorts_in _) (enters_of Tryz.func120 (by kernel_rfl) rfl) 206 #[.pointer (some ⟨w.heap.size, 0, none⟩)] trivial
    (enters_of Tryz.func206 (by kernel_rfl) rfl) _ _ (by unfold maxLen; omega) (by omega) _ hseq)).mono ?_
  rintro e w' ⟨v, ss, he, hS, hrow, hnil, hb⟩
  rw [World.size_alloc] at hrow hb
  refine ⟨v, ss, he, hS, ?_, hb⟩
  have e1 : scells ((ss.mergeSort (fun x y => decide (x ≤ y))).map fun x => ⟨x.toArray⟩) = (ss.mergeSort (fun x y => decide (x ≤ y))).map encStr := by
    unfold scells; rw [List.map_map]; rfl
  rw [e1]; exact hrow
end Go.Proofs.YtclfjdnemafmeaaGreatDoor
end
