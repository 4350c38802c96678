/-
  Texts of the schema layer and of those beneath it, joined: SchC, MapRaw, SchT, SchTab, SchAdd. Conditions stand at each contract.
-/
import Derived.Maps.AppendAt
import Derived.Deep.RegionHeld3
import Derived.Test.YtclfjdnemafmeaaGreatDoorQ02
import Derived.Test.YtclfjdnemafmeaaGreatDoorQ04
import Derived.Test.YtclfjdnemafmeaaGreatDoorQ14
set_option linter.unusedVariables false
set_option linter.unusedSimpArgs false
set_option linter.unnecessarySimpa false

section
/-
  Classes and types in slices of the call's own: their cells, appends, what reads as a list of them. Condition: at most 1000000000 of them.
-/
set_option maxRecDepth 100000
namespace Go.Proofs.YtclfjdnemafmeaaGreatDoor
open Go.RowKit Go.PlainAid
/-! ### lists of records of k cells -/
theorem flat_at {α β : Type} (f : α → List β) (k : Nat) (hf : ∀ x, (f x).length = k) (d : α) : ∀ (l : List α) (j i : Nat), j < l.length → i < k → (l.flatMap f)[j * k + i]? = (f (l.getD j d))[i]?
  | [], j, i, h, _ => absurd h (Nat.not_lt_zero _)
  | x :: l, 0, i, _, hi => by
    rw [List.flatMap_cons, List.getElem?_append_left (by rw [hf]; omega), Nat.zero_mul, Nat.zero_add]; rfl
  | x :: l, j + 1, i, h, hi => by
    rw [List.flatMap_cons, List.getElem?_append_right (by rw [hf, Nat.succ_mul]; omega), hf, show (j + 1) * k + i - k = j * k + i by rw [Nat.succ_mul]; omega]
    exact flat_at f k hf d l j i (by simpa using h) hi
/-! ### classes -/
/-- a class as a value: what it is, the heads of its two lists -/
structure Cv where
  cl : Cl
  hm : Value
  hy : Value
instance : Inhabited Cv := ⟨⟨default, .slice none 0 0, .slice none 0 0⟩⟩
def cvC (c : Cv) : List Value := [.string c.cl.name, .string c.cl.super, c.hm, c.hy]
def cvV (c : Cv) : Value := .agg #[.string c.cl.name, .string c.cl.super, c.hm, c.hy]
def CvOk (w : World) (c : Cv) : Prop := Hdr w c.hm c.cl.must ∧ Hdr w c.hy c.cl.may
theorem CvOk.below {w w' : World} {c : Cv} (h : CvOk w c) (hb : Below w.heap.size w w') : CvOk w' c := ⟨h.1.below hb, h.2.below hb⟩
def ccells (l : List Cv) : List Value := l.flatMap cvC
def ccls (l : List Cv) : List Cl := l.map (·.cl)
theorem ccells_snoc (l : List Cv) (c : Cv) : ccells (l ++ [c]) = ccells l ++ cvC c := by simp [ccells]
theorem ccls_snoc (l : List Cv) (c : Cv) : ccls (l ++ [c]) = ccls l ++ [c.cl] := by simp [ccls]
theorem ccls_len (l : List Cv) : (ccls l).length = l.length := by simp [ccls]
theorem ccls_at (l : List Cv) (j : Nat) (h : j < l.length) : clAt (ccls l) j = (l.getD j default).cl := by
  unfold clAt ccls
  rw [List.getD_eq_getElem?_getD, List.getD_eq_getElem?_getD, List.getElem?_map, List.getElem?_eq_getElem h]; rfl
theorem ccells_one {w : World} {l : List Cv} (h : ∀ c ∈ l, CvOk w c) : ∀ u ∈ ccells l, u.oneCell' = true := by
  intro u hu
  obtain ⟨c, hc, hu⟩ := List.mem_flatMap.1 hu
  simp only [cvC, List.mem_cons, List.not_mem_nil, or_false] at hu
  rcases hu with rfl | rfl | rfl | rfl
  · rfl
  · rfl
  · exact (h c hc).1.one
  · exact (h c hc).2.one
theorem info_class : (Tryz.prog.info? 57).map (fun i => (i.zero, i.size, i.bytes)) = some (some (.agg #[.string ⟨#[]⟩, .string ⟨#[]⟩, .slice none 0 0, .slice none 0 0]), 4, 80) := by kernel_rfl
theorem info_type : (Tryz.prog.info? 32).map (fun i => (i.zero, i.size, i.bytes)) = some (some (.agg #[.string ⟨#[]⟩, .int .i64 0, .bool false]), 3, 32) := by kernel_rfl
theorem cells_four_new (w : World) (x y z u : Value) (t : TypeId) : ∀ j v, [x, y, z, u][j]? = some v → (w.alloc (.cells #[x, y, z, u] t)).cell? ((⟨w.heap.size, 0, none⟩ : Addr).add j) = some v := by
  intro j v hj
  have h : (w.alloc (.cells #[x, y, z, u] t)).heap[w.heap.size]? = some (.cells #[x, y, z, u] t (0, 0)) := heap_alloc_new w _
  rw [show (⟨w.heap.size, 0, none⟩ : Addr).add j = ⟨w.heap.size, j, none⟩ by rw [Go.WideShapes.add_plain, Nat.zero_add], Lib.cell_of_heap h]
  match j, hj with
  | 0, hj => simpa using hj
  | 1, hj => simpa using hj
  | 2, hj => simpa using hj
  | 3, hj => simpa using hj
  | j + 4, hj => simp at hj
theorem cells_three_new (w : World) (x y z : Value) (t : TypeId) : ∀ j v, [x, y, z][j]? = some v → (w.alloc (.cells #[x, y, z] t)).cell? ((⟨w.heap.size, 0, none⟩ : Addr).add j) = some v := by
  intro j v hj
  have h : (w.alloc (.cells #[x, y, z] t)).heap[w.heap.size]? = some (.cells #[x, y, z] t (0, 0)) := heap_alloc_new w _
  rw [show (⟨w.heap.size, 0, none⟩ : Addr).add j = ⟨w.heap.size, j, none⟩ by rw [Go.WideShapes.add_plain, Nat.zero_add], Lib.cell_of_heap h]
  match j, hj with
  | 0, hj => simpa using hj
  | 1, hj => simpa using hj
  | 2, hj => simpa using hj
  | j + 3, hj => simp at hj
/-- 'l = append(l, c)' where l is the call's own -/
theorem push_class {ops : Array Oper} {rest : List Oper} {o : Oper} {a : Act} {Q : Exit → Act → World → Prop} (wr : World) {base : Nat} {v : Value} {n : Nat} {xs : List Value} (hown : wr.ownsRow base 57 4 v n xs) (s x : Operand)
    (c : Cv) {w0 : World} (hc : CvOk w0 c) (hgd : o.guard = none)
    (ho : o.op = .call { callee := .builtin .append, args := #[s, x], argTypes := #[23, 23] })
    (hs : a.eval s = v) (hx : a.eval x = .slice (some ⟨wr.heap.size, 0, none⟩) 1 1) (hn : n + 1 ≤ 1000000000) (hbase : base ≤ wr.heap.size)
    (h : ∀ v' w', w'.ownsRow base 57 4 v' (n + 1) (xs ++ cvC c) → (wr.alloc (.cells #[.string c.cl.name, .string c.cl.super, c.hm, c.hy] 57)).grownBy w' v.ownBlock → (v'.ownBlock = v.ownBlock ∨ ∃ g, v'.ownBlock = some g ∧ wr.heap.size < g) → wpList Tryz.prog ops Q rest (a.put o.dst v') w') :
    wpList Tryz.prog ops Q (o :: rest) a (wr.alloc (.cells #[.string c.cl.name, .string c.cl.super, c.hm, c.hy] 57)) := by
  obtain ⟨i0, hi, hz0, hz1, hz2⟩ := info_parts info_class
  refine wpList_append_own_at _ hgd s x 23 ho base 57 i0 (.agg #[.string ⟨#[]⟩, .string ⟨#[]⟩, .slice none 0 0, .slice none 0 0]) 4 80 Tryz.underlying23 hi hz0 hz1 hz2 rfl (by decide) v n xs hs (hown.alloc _) ⟨wr.heap.size, 0, none⟩ 1 1 (cvC c) hx rfl
    (cells_four_new _ _ _ _ _ _) (by
      have := ccells_one (w := w0) (l := [c]) (fun d hd => by rw [List.mem_singleton.1 hd]; exact hc)
      simpa [ccells] using this) (by unfold maxLen; omega) (by omega) (by simp; omega) ?_
  intro v' w' h1 h2 _ h4
  refine h v' w' h1 h2 ?_
  rcases h4 with h4 | h4
  · exact .inl h4
  · exact .inr ⟨_, h4, by simp⟩
theorem cls_own {w : World} {base n : Nat} {v : Value} {l : List Cv} (h : w.ownsRow base 57 4 v n (ccells l)) (hn : l.length = n) (hc : ∀ c ∈ l, CvOk w c) : ∃ ao cap, v = .slice ao n cap ∧ ClsAt w ao n cap (ccls l) := by
  have h0 := h
  rcases h.2 with ⟨rfl, rfl⟩ | ⟨g, cap, cur, rfl, hb, hg, hcp, hm, hcs, ht⟩
  · exact ⟨none, 0, rfl, by rw [ccls_len]; exact hn, Nat.le_refl _, by unfold maxLen; omega, fun h => absurd h (Nat.lt_irrefl _)⟩
  · refine ⟨_, cap, rfl, by rw [ccls_len]; exact hn, hcp, hm, fun h1 => ⟨g, 0, rfl, ?_, fun j hj => ?_⟩⟩
    · rcases Nat.lt_or_ge g w.heap.size with h' | h'
      · exact h'
      · simp [Array.getElem?_eq_none h'] at hg
    · have key : ∀ i u, i < 4 → (cvC (l.getD j default))[i]? = some u → w.cell? ⟨g, 0 + j * 4 + i, none⟩ = some u := fun i u hi hu => by
        have := h0.cells (g := g) rfl (j * 4 + i) u ((flat_at cvC 4 (fun _ => rfl) default l j i (by omega) hi).trans hu)
        rwa [Go.WideShapes.add_plain, ← Nat.add_assoc] at this
      have hmem : l.getD j default ∈ l := by
        rw [List.getD_eq_getElem?_getD, List.getElem?_eq_getElem (by omega)]; exact List.getElem_mem _
      rw [ccls_at l j (by omega)]
      obtain ⟨⟨vo, vn, vc, e1, s1⟩, uo, un, uc, e2, s2⟩ := hc _ hmem
      exact ⟨key 0 _ (by omega) rfl, key 1 _ (by omega) rfl, ⟨vo, vn, vc, by rw [← e1]; exact key 2 _ (by omega) rfl, s1⟩, uo, un, uc, by rw [← e2]; exact key 3 _ (by omega) rfl, s2⟩
/-- a class of a slice, as a value -/
theorem cl_val {w : World} {b off : Nat} {c : Cl} (h : ClAt w b off c) : ∃ d : Cv, d.cl = c ∧ CvOk w d ∧ w.cell? ⟨b, off, none⟩ = some (.string c.name) ∧ w.cell? ⟨b, off + 1, none⟩ = some (.string c.super) ∧ w.cell? ⟨b, off + 2, none⟩ = some d.hm ∧ w.cell? ⟨b, off + 3, none⟩ = some d.hy := by
  obtain ⟨h0, h1, ⟨vo, vn, vc, h2, s2⟩, uo, un, uc, h3, s3⟩ := h
  exact ⟨⟨c, .slice vo vn vc, .slice uo un uc⟩, rfl, ⟨⟨vo, vn, vc, rfl, s2⟩, uo, un, uc, rfl, s3⟩, h0, h1, h2, h3⟩
/-! ### types -/
def tyC (t : Ty) : List Value := [.string t.name, .int .i64 t.syn, .bool t.single]
def tyV (t : Ty) : Value := .agg #[.string t.name, .int .i64 t.syn, .bool t.single]
def ycells (l : List Ty) : List Value := l.flatMap tyC
theorem ycells_snoc (l : List Ty) (t : Ty) : ycells (l ++ [t]) = ycells l ++ tyC t := by simp [ycells]
theorem ycells_one (l : List Ty) : ∀ u ∈ ycells l, u.oneCell' = true := by
  intro u hu
  obtain ⟨c, hc, hu⟩ := List.mem_flatMap.1 hu
  simp only [tyC, List.mem_cons, List.not_mem_nil, or_false] at hu
  rcases hu with rfl | rfl | rfl <;> rfl
theorem tys_own {w : World} {base n : Nat} {v : Value} {l : List Ty} (h : w.ownsRow base 32 3 v n (ycells l)) (hn : l.length = n) : ∃ ao cap, v = .slice ao n cap ∧ TysAt w ao n cap l := by
  have h0 := h
  rcases h.2 with ⟨rfl, rfl⟩ | ⟨g, cap, cur, rfl, hb, hg, hcp, hm, hcs, ht⟩
  · exact ⟨none, 0, rfl, hn, Nat.le_refl _, by unfold maxLen; omega, fun h => absurd h (Nat.lt_irrefl _)⟩
  · refine ⟨_, cap, rfl, hn, hcp, hm, fun h1 => ⟨g, 0, rfl, ?_, fun j hj => ?_⟩⟩
    · rcases Nat.lt_or_ge g w.heap.size with h' | h'
      · exact h'
      · simp [Array.getElem?_eq_none h'] at hg
    · have key : ∀ i u, i < 3 → (tyC (tyAt l j))[i]? = some u → w.cell? ⟨g, 0 + j * 3 + i, none⟩ = some u := fun i u hi hu => by
        have := h0.cells (g := g) rfl (j * 3 + i) u ((flat_at tyC 3 (fun _ => rfl) default l j i (by omega) hi).trans hu)
        rwa [Go.WideShapes.add_plain, ← Nat.add_assoc] at this
      exact ⟨key 0 _ (by omega) rfl, key 1 _ (by omega) rfl, key 2 _ (by omega) rfl⟩
end Go.Proofs.YtclfjdnemafmeaaGreatDoor
end

section
/-
  A map keyed by strings that a call has made, its elements held as they are, of whatever type: look-up, store. Condition: keys of a string's length, fewer than 2^62 entries.
-/
set_option maxRecDepth 100000
namespace Go.Proofs.YtclfjdnemafmeaaGreatDoor
open Go.RowKit Go.PlainAid Go.Maps
def rawE (v : Value) : Option (DataW Value × List MemPlace) := some (.held v, [])
/-- block b is a map of at most n entries that holds f k at the key k -/
def RawMap (w : World) (b n : Nat) (f : ByteArray → Option Value) : Prop :=
  ∃ D, w.ownsMap Tryz.prog 9 rawE b n D ∧ ∀ k, Maps.has D (klit k) = (f k).isSome ∧ ∀ v, f k = some v → ∀ z, D.atKey (klit k) z = .held v
theorem raw_made (w : World) : RawMap (w.alloc (.map #[] 0)) w.heap.size 0 fun _ => none :=
  ⟨.map [], World.ownsMap_made w _ _ _, fun k => ⟨rfl, fun v h => by cases h⟩⟩
theorem RawMap.lt {w : World} {b n : Nat} {f : ByteArray → Option Value} (h : RawMap w b n f) : b < w.heap.size := by
  obtain ⟨D, h, _⟩ := h; exact h.lt
theorem RawMap.kept {w w' : World} {b n : Nat} {f : ByteArray → Option Value} {row : Option Nat} (h : RawMap w b n f) (hg : w.grownBy w' row) (hne : some b ≠ row) : RawMap w' b n f := by
  obtain ⟨D, h, hf⟩ := h; exact ⟨D, h.kept hg hne, hf⟩
theorem RawMap.below {w w' : World} {b n : Nat} {f : ByteArray → Option Value} {B : Nat} (h : RawMap w b n f) (hb : Below B w w') (hB : b < B) : RawMap w' b n f := by
  obtain ⟨D, ⟨es, clock, he, h1, h2⟩, hf⟩ := h
  exact ⟨D, ⟨es, clock, by rw [hb.block b hB]; exact he, h1, h2⟩, hf⟩
theorem RawMap.mono {w : World} {b n m : Nat} {f : ByteArray → Option Value} (h : RawMap w b n f) (hm : n ≤ m) : RawMap w b m f := by
  obtain ⟨D, h, hf⟩ := h; exact ⟨D, h.mono hm, hf⟩
/-- a map's value: nil, or a block -/
def MapVal (w : World) (mv : Option Nat) (f : ByteArray → Option Value) : Prop := (mv = none ∧ ∀ k, f k = none) ∨ ∃ b n, mv = some b ∧ RawMap w b n f
theorem MapVal.below {w w' : World} {mv : Option Nat} {f : ByteArray → Option Value} (h : MapVal w mv f) (hb : Below w.heap.size w w') : MapVal w' mv f := by
  rcases h with h | ⟨b, n, e, h⟩
  · exact .inl h
  · exact .inr ⟨b, n, e, h.below hb h.lt⟩
theorem MapVal.kept {w w' : World} {mv : Option Nat} {f : ByteArray → Option Value} {row : Option Nat} (h : MapVal w mv f) (hg : w.grownBy w' row) (hne : ∀ b, mv = some b → some b ≠ row) : MapVal w' mv f := by
  rcases h with h | ⟨b, n, e, h⟩
  · exact .inl h
  · exact .inr ⟨b, n, e, h.kept hg (hne b e)⟩
theorem MapVal.look_ok {w : World} {mv : Option Nat} {f : ByteArray → Option Value} {t e : TypeId} {z : Value} (h : MapVal w mv f) (ht : Tryz.prog.underlying t = some (.map 9 e)) (hz : (zeroValue e).run Tryz.prog w = .ok z w) (k : ByteArray) (hk : k.size ≤ maxLen) :
    (Instr.lookup t (.map mv) (.string k) true).run Tryz.prog w = .ok (.tuple #[(f k).getD z, .bool (f k).isSome]) w := by
  rcases h with ⟨rfl, hn⟩ | ⟨b, n, rfl, D, hm, hf⟩
  · rw [Maps.look_nil true (string_keyed Tryz.underlying9) ht hz (klit_key k hk), hn k]; rfl
  · obtain ⟨v, ps, hrun, hv⟩ := hm.look_ok (string_keyed Tryz.underlying9) ht hz (zd := .held z) rfl (klit_key k hk)
    rw [hrun, (hf k).1]
    have hv2 : DataW.held v = D.atKey (klit k) (.held z) := by
      unfold rawE at hv
      simp only [Option.some.injEq, Prod.mk.injEq] at hv
      exact hv.1
    cases hfk : f k with
    | none =>
      have h0 := (hf k).1
      rw [hfk] at h0
      rw [atKey_of_not_has h0] at hv2
      injection hv2 with hv2
      rw [hv2]; rfl
    | some u =>
      rw [(hf k).2 u hfk] at hv2
      injection hv2 with hv2
      rw [hv2]; rfl
theorem MapVal.look {w : World} {mv : Option Nat} {f : ByteArray → Option Value} {t e : TypeId} {z : Value} (h : MapVal w mv f) (ht : Tryz.prog.underlying t = some (.map 9 e)) (hz : (zeroValue e).run Tryz.prog w = .ok z w) (k : ByteArray) (hk : k.size ≤ maxLen) :
    (Instr.lookup t (.map mv) (.string k) false).run Tryz.prog w = .ok ((f k).getD z) w := by
  rcases h with ⟨rfl, hn⟩ | ⟨b, n, rfl, D, hm, hf⟩
  · rw [Maps.look_nil false (string_keyed Tryz.underlying9) ht hz (klit_key k hk), hn k]; rfl
  · obtain ⟨v, ps, hrun, hv⟩ := hm.lookup (string_keyed Tryz.underlying9) ht hz (zd := .held z) rfl (klit_key k hk)
    rw [hrun]
    have hv2 : DataW.held v = D.atKey (klit k) (.held z) := by
      unfold rawE at hv
      simp only [Option.some.injEq, Prod.mk.injEq] at hv
      exact hv.1
    cases hfk : f k with
    | none =>
      have h0 := (hf k).1
      rw [hfk] at h0
      rw [atKey_of_not_has h0] at hv2
      injection hv2 with hv2
      rw [hv2]; rfl
    | some u =>
      rw [(hf k).2 u hfk] at hv2
      injection hv2 with hv2
      rw [hv2]; rfl
def setO (f : ByteArray → Option Value) (k : ByteArray) (v : Value) (j : ByteArray) : Option Value := if j = k then some v else f j
theorem RawMap.store {w : World} {b n : Nat} {f : ByteArray → Option Value} {t e : TypeId} (h : RawMap w b n f) (ht : Tryz.prog.underlying t = some (.map 9 e)) (hn : n < maxLen) (k : ByteArray) (hk : k.size ≤ maxLen) (v : Value) :
    ∃ w', (Instr.mapUpdate t (.map (some b)) (.string k) v).run Tryz.prog w = .ok () w' ∧ RawMap w' b (n + 1) (setO f k v) ∧ w.grownBy w' (some b) := by
  obtain ⟨D, hm, hf⟩ := h
  obtain ⟨w', hrun, hm', hg⟩ := hm.update (string_keyed Tryz.underlying9) ht hn (klit_key k hk) (val := v) (d := .held v) (ps := []) rfl
  refine ⟨w', hrun, ⟨_, hm', fun j => ?_⟩, hg⟩
  unfold setO
  by_cases e : j = k
  · subst e
    rw [if_pos rfl]
    refine ⟨has_put_same hm.isMap (by unfold klit; trivial) _, fun u hu z => ?_⟩
    obtain rfl := Option.some.inj hu
    exact atKey_put_same hm.isMap (by unfold klit; trivial) _ _
  · rw [if_neg e]
    have hne : klit j ≠ klit k := fun h => e (klit_one h)
    exact ⟨by rw [has_put_other hne]; exact (hf j).1, fun u hu z => by rw [atKey_put_other hne]; exact (hf j).2 u hu z⟩
end Go.Proofs.YtclfjdnemafmeaaGreatDoor
end

section
/-
  The table of a schema: maps from names in lower case to types and to classes; what a look-up gives, what a store leaves. Condition: names of a string's length.
-/
set_option maxRecDepth 100000
namespace Go.Proofs.YtclfjdnemafmeaaGreatDoor
open Go.RowKit Go.PlainAid Go.Maps
def zeroTy : Ty := ⟨⟨#[]⟩, 0, false⟩
def zeroCv : Cv := ⟨⟨⟨#[]⟩, ⟨#[]⟩, [], []⟩, .slice none 0 0, .slice none 0 0⟩
def zeroTyV : Value := .agg #[.string ⟨#[]⟩, .int .i64 0, .bool false]
def zeroClV : Value := .agg #[.string ⟨#[]⟩, .string ⟨#[]⟩, .slice none 0 0, .slice none 0 0]
/-- the map of types: at the name in lower case of each type, the type -/
def TMap (w : World) (mv : Option Nat) (ts : List Ty) : Prop := ∃ f, MapVal w mv f ∧ ∀ n, f (lowS n) = (tyOf ts n).map tyV
/-- the map of classes; what their lists hold is read in the world w0 -/
def CMap (w0 w : World) (mv : Option Nat) (cs : List Cl) : Prop :=
  ∃ f, MapVal w mv f ∧ ∀ n, (clOf cs n = none → f (lowS n) = none) ∧ ∀ c, clOf cs n = some c → ∃ d : Cv, d.cl = c ∧ CvOk w0 d ∧ f (lowS n) = some (cvV d)
theorem TMap.below {w w' : World} {mv : Option Nat} {ts : List Ty} (h : TMap w mv ts) (hb : Below w.heap.size w w') : TMap w' mv ts := by
  obtain ⟨f, h, k⟩ := h; exact ⟨f, h.below hb, k⟩
theorem CMap.below {w0 w w' : World} {mv : Option Nat} {cs : List Cl} (h : CMap w0 w mv cs) (hb : Below w.heap.size w w') : CMap w0 w' mv cs := by
  obtain ⟨f, h, k⟩ := h; exact ⟨f, h.below hb, k⟩
theorem CMap.base {w0 w1 w : World} {mv : Option Nat} {cs : List Cl} (h : CMap w0 w mv cs) (hb : Below w0.heap.size w0 w1) : CMap w1 w mv cs := by
  obtain ⟨f, h, k⟩ := h
  refine ⟨f, h, fun n => ⟨(k n).1, fun c hc => ?_⟩⟩
  obtain ⟨d, e, ho, hf⟩ := (k n).2 c hc
  exact ⟨d, e, ho.below hb, hf⟩
theorem TMap.kept {w w' : World} {mv : Option Nat} {ts : List Ty} {row : Option Nat} (h : TMap w mv ts) (hg : w.grownBy w' row) (hne : ∀ b, mv = some b → some b ≠ row) : TMap w' mv ts := by
  obtain ⟨f, h, k⟩ := h; exact ⟨f, h.kept hg hne, k⟩
theorem CMap.kept {w0 w w' : World} {mv : Option Nat} {cs : List Cl} {row : Option Nat} (h : CMap w0 w mv cs) (hg : w.grownBy w' row) (hne : ∀ b, mv = some b → some b ≠ row) : CMap w0 w' mv cs := by
  obtain ⟨f, h, k⟩ := h; exact ⟨f, h.kept hg hne, k⟩
theorem tmap_nil (w : World) : TMap w none [] := ⟨fun _ => none, .inl ⟨rfl, fun _ => rfl⟩, fun _ => rfl⟩
theorem cmap_nil (w0 w : World) : CMap w0 w none [] := ⟨fun _ => none, .inl ⟨rfl, fun _ => rfl⟩, fun _ => ⟨fun _ => rfl, fun c hc => by cases hc⟩⟩
theorem TMap.look {w : World} {mv : Option Nat} {ts : List Ty} (h : TMap w mv ts) (n : ByteArray) (hn : n.size ≤ 1000000000) :
    (Instr.lookup 65 (.map mv) (.string (lowS n)) true).run Tryz.prog w = .ok (.tuple #[((tyOf ts n).map tyV).getD zeroTyV, .bool (tyOf ts n).isSome]) w := by
  obtain ⟨f, h, k⟩ := h
  rw [h.look_ok Tryz.underlying65 (Tryz.zeroValue32 _) (lowS n) (by rw [lowS_size]; unfold maxLen; omega), k n]
  cases tyOf ts n <;> rfl
/-- a class looked up: the zero class where there is none -/
theorem CMap.look {w0 w : World} {mv : Option Nat} {cs : List Cl} (h : CMap w0 w mv cs) (n : ByteArray) (hn : n.size ≤ 1000000000) :
    ∃ v, (Instr.lookup 66 (.map mv) (.string (lowS n)) true).run Tryz.prog w = .ok (.tuple #[v, .bool (clOf cs n).isSome]) w ∧ (clOf cs n = none → v = zeroClV) ∧ ∀ c, clOf cs n = some c → ∃ d : Cv, d.cl = c ∧ CvOk w0 d ∧ v = cvV d := by
  obtain ⟨f, h, k⟩ := h
  refine ⟨(f (lowS n)).getD zeroClV, ?_, fun hc => by rw [(k n).1 hc]; rfl, fun c hc => ?_⟩
  · rw [h.look_ok Tryz.underlying66 (Tryz.zeroValue57 _) (lowS n) (by rw [lowS_size]; unfold maxLen; omega)]
    cases hc : clOf cs n with
    | none => rw [(k n).1 hc]; rfl
    | some c =>
      obtain ⟨d, e, ho, hf⟩ := (k n).2 c hc
      rw [hf]; rfl
  · obtain ⟨d, e, ho, hf⟩ := (k n).2 c hc
    exact ⟨d, e, ho, by rw [hf]; rfl⟩
/-- the tables while they are filled: blocks, at most so many entries -/
def TOpen (w : World) (b n : Nat) (ts : List Ty) : Prop := ∃ f, RawMap w b n f ∧ ∀ m, f (lowS m) = (tyOf ts m).map tyV
def COpen (w0 w : World) (b n : Nat) (cs : List Cl) : Prop :=
  ∃ f, RawMap w b n f ∧ ∀ n, (clOf cs n = none → f (lowS n) = none) ∧ ∀ c, clOf cs n = some c → ∃ d : Cv, d.cl = c ∧ CvOk w0 d ∧ f (lowS n) = some (cvV d)
theorem TOpen.map {w : World} {b n : Nat} {ts : List Ty} (h : TOpen w b n ts) : TMap w (some b) ts := by
  obtain ⟨f, h, k⟩ := h; exact ⟨f, .inr ⟨b, n, rfl, h⟩, k⟩
theorem COpen.map {w0 w : World} {b n : Nat} {cs : List Cl} (h : COpen w0 w b n cs) : CMap w0 w (some b) cs := by
  obtain ⟨f, h, k⟩ := h; exact ⟨f, .inr ⟨b, n, rfl, h⟩, k⟩
theorem TOpen.lt {w : World} {b n : Nat} {ts : List Ty} (h : TOpen w b n ts) : b < w.heap.size := by obtain ⟨f, h, _⟩ := h; exact h.lt
theorem COpen.lt {w0 w : World} {b n : Nat} {ts : List Cl} (h : COpen w0 w b n ts) : b < w.heap.size := by obtain ⟨f, h, _⟩ := h; exact h.lt
theorem TOpen.below {w w' : World} {b n : Nat} {ts : List Ty} {B : Nat} (h : TOpen w b n ts) (hb : Below B w w') (hB : b < B) : TOpen w' b n ts := by
  obtain ⟨f, h, k⟩ := h; exact ⟨f, h.below hb hB, k⟩
theorem COpen.below {w0 w w' : World} {b n : Nat} {cs : List Cl} {B : Nat} (h : COpen w0 w b n cs) (hb : Below B w w') (hB : b < B) : COpen w0 w' b n cs := by
  obtain ⟨f, h, k⟩ := h; exact ⟨f, h.below hb hB, k⟩
theorem TOpen.kept {w w' : World} {b n : Nat} {ts : List Ty} {row : Option Nat} (h : TOpen w b n ts) (hg : w.grownBy w' row) (hne : some b ≠ row) : TOpen w' b n ts := by
  obtain ⟨f, h, k⟩ := h; exact ⟨f, h.kept hg hne, k⟩
theorem COpen.kept {w0 w w' : World} {b n : Nat} {cs : List Cl} {row : Option Nat} (h : COpen w0 w b n cs) (hg : w.grownBy w' row) (hne : some b ≠ row) : COpen w0 w' b n cs := by
  obtain ⟨f, h, k⟩ := h; exact ⟨f, h.kept hg hne, k⟩
theorem topen_made (w : World) : TOpen (w.alloc (.map #[] 0)) w.heap.size 0 [] := ⟨_, raw_made w, fun m => rfl⟩
theorem copen_made (w0 w : World) : COpen w0 (w.alloc (.map #[] 0)) w.heap.size 0 [] := ⟨_, raw_made w, fun m => ⟨fun _ => rfl, fun c hc => by cases hc⟩⟩
/-- a type that has no elder of its name is put in -/
theorem TOpen.store {w : World} {b n : Nat} {ts : List Ty} (h : TOpen w b n ts) (t : Ty) (hn : n < 1000000) (hz : t.name.size ≤ 1000000000) (hT : tyOf ts t.name = none) :
    ∃ w', (Instr.mapUpdate 65 (.map (some b)) (.string (lowS t.name)) (tyV t)).run Tryz.prog w = .ok () w' ∧ TOpen w' b (n + 1) (ts ++ [t]) ∧ w.grownBy w' (some b) := by
  obtain ⟨f, h, k⟩ := h
  obtain ⟨w', hrun, hm, hg⟩ := h.store Tryz.underlying65 (by unfold maxLen; omega) (lowS t.name) (by rw [lowS_size]; unfold maxLen; omega) (tyV t)
  refine ⟨w', hrun, ⟨_, hm, fun m => ?_⟩, hg⟩
  rw [tyOf_snoc]
  unfold setO
  by_cases e : lowS m = lowS t.name
  · have : tyOf ts m = none := by rw [← tyOf_low, e, tyOf_low]; exact hT
    rw [if_pos e, this, if_pos e.symm]; rfl
  · rw [if_neg e, k m, if_neg (fun h => e h.symm), Option.or_none]
theorem COpen.store {w0 w : World} {b n : Nat} {cs : List Cl} (h : COpen w0 w b n cs) (d : Cv) (hd : CvOk w0 d) (hn : n < 1000000) (hz : d.cl.name.size ≤ 1000000000) (hT : clOf cs d.cl.name = none) :
    ∃ w', (Instr.mapUpdate 66 (.map (some b)) (.string (lowS d.cl.name)) (cvV d)).run Tryz.prog w = .ok () w' ∧ COpen w0 w' b (n + 1) (cs ++ [d.cl]) ∧ w.grownBy w' (some b) := by
  obtain ⟨f, h, k⟩ := h
  obtain ⟨w', hrun, hm, hg⟩ := h.store Tryz.underlying66 (by unfold maxLen; omega) (lowS d.cl.name) (by rw [lowS_size]; unfold maxLen; omega) (cvV d)
  refine ⟨w', hrun, ⟨_, hm, fun m => ?_⟩, hg⟩
  rw [clOf_snoc]
  unfold setO
  by_cases e : lowS m = lowS d.cl.name
  · have : clOf cs m = none := by rw [← clOf_low, e, clOf_low]; exact hT
    rw [if_pos e, this, if_pos e.symm]
    refine ⟨(fun h => by cases h), fun c hc => ⟨d, ?_, hd, rfl⟩⟩
    simpa using hc
  · rw [if_neg e, if_neg (fun h => e h.symm), Option.or_none]
    exact k m
end Go.Proofs.YtclfjdnemafmeaaGreatDoor
end

section
/-
  Contracts of the table's typeOf and class: a type, a class looked up by its name. Condition: names of at most 1000000000 bytes.
-/
set_option maxRecDepth 100000
namespace Go.Proofs.YtclfjdnemafmeaaGreatDoor
open Go.RowKit Go.PlainAid
theorem frozen_later {w w' : World} {b i : Nat} (hb : Below w.heap.size w w') (hl : b < w.heap.size) (h : w.frozen? ⟨b, i, none⟩ = false) : w'.frozen? ⟨b, i, none⟩ = false := by
  unfold World.frozen? at *
  rw [show w'.heap[(⟨b, i, none⟩ : Addr).block]? = w.heap[(⟨b, i, none⟩ : Addr).block]? from hb.block b hl]
  exact h
theorem below_set1 {B : Nat} {a w : World} (h : Below B a w) (g i : Nat) (hg : B ≤ g) (u : Value) : Below B a (w.setCell ⟨g, i, none⟩ u) := h.setCell (p := ⟨g, i, none⟩) hg u
theorem set_size (w : World) (a : Addr) (u : Value) : (w.setCell a u).heap.size = w.heap.size := by simp [World.setCell]
theorem lsees {w W : World} {mv : Option Nat} {i : Nat} {t : TypeId} {k : ByteArray} {v : Value} {s : Nat} (h : ∀ W, Below w.heap.size w W → (Instr.lookup t (.map mv) (.string k) true).run Tryz.prog W = .ok v W) (c : W.cell? ⟨w.heap.size, i, none⟩ = some (.map mv)) (hb : Below w.heap.size w W) (hs : w.heap.size + s ≤ W.heap.size) :
    W.cell? ⟨w.heap.size, i, none⟩ = some (.map mv) ∧ (Instr.lookup t (.map mv) (.string k) true).run Tryz.prog W = .ok v W ∧ Hid (Below w.heap.size w W ∧ w.heap.size + s ≤ W.heap.size) := ⟨c, h W hb, Lib.hid ⟨hb, hs⟩⟩
theorem lsees_below {w W V : World} {mv : Option Nat} {i : Nat} {t : TypeId} {k : ByteArray} {v : Value} {s : Nat} (h : ∀ W, Below w.heap.size w W → (Instr.lookup t (.map mv) (.string k) true).run Tryz.prog W = .ok v W)
    (c : W.cell? ⟨w.heap.size, i, none⟩ = some (.map mv) ∧ (Instr.lookup t (.map mv) (.string k) true).run Tryz.prog W = .ok v W ∧ Hid (Below w.heap.size w W ∧ w.heap.size + s ≤ W.heap.size)) (hb : Below W.heap.size W V) :
    V.cell? ⟨w.heap.size, i, none⟩ = some (.map mv) ∧ (Instr.lookup t (.map mv) (.string k) true).run Tryz.prog V = .ok v V ∧ Hid (Below w.heap.size w V ∧ w.heap.size + s ≤ V.heap.size) :=
  lsees h (cell_later hb c.1) (c.2.2.out.1.trans (hb.mono (by have := c.2.2.out.2; omega))) (Nat.le_trans c.2.2.out.2 hb.size)
theorem lsees_set {w W : World} {mv : Option Nat} {i : Nat} {t : TypeId} {k : ByteArray} {v : Value} {s : Nat} (h : ∀ W, Below w.heap.size w W → (Instr.lookup t (.map mv) (.string k) true).run Tryz.prog W = .ok v W) (g j : Nat) (u : Value) (hg : w.heap.size < g)
    (c : W.cell? ⟨w.heap.size, i, none⟩ = some (.map mv) ∧ (Instr.lookup t (.map mv) (.string k) true).run Tryz.prog W = .ok v W ∧ Hid (Below w.heap.size w W ∧ w.heap.size + s ≤ W.heap.size)) :
    (W.setCell ⟨g, j, none⟩ u).cell? ⟨w.heap.size, i, none⟩ = some (.map mv) ∧ (Instr.lookup t (.map mv) (.string k) true).run Tryz.prog (W.setCell ⟨g, j, none⟩ u) = .ok v (W.setCell ⟨g, j, none⟩ u) ∧ Hid (Below w.heap.size w (W.setCell ⟨g, j, none⟩ u) ∧ w.heap.size + s ≤ (W.setCell ⟨g, j, none⟩ u).heap.size) :=
  lsees h ((World.cell?_of_block (heap_setCell_other W ⟨g, j, none⟩ w.heap.size u (by show w.heap.size ≠ g; omega))).trans c.1) (below_set1 c.2.2.out.1 g j (by omega) u) (by rw [set_size]; exact c.2.2.out.2)
/-- a class looked up: the zero class where there is none -/
def ClGot (w0 : World) (cs : List Cl) (n : ByteArray) (d : Cv) : Prop := (clOf cs n = none → d = zeroCv) ∧ ∀ c, clOf cs n = some c → d.cl = c ∧ CvOk w0 d
theorem TMap.looks {w : World} {mv : Option Nat} {ts : List Ty} (h : TMap w mv ts) (n : ByteArray) (hn : n.size ≤ 1000000000) :
    ∃ t : Ty, (tyOf ts n).getD zeroTy = t ∧ ∀ W, Below w.heap.size w W → (Instr.lookup 65 (.map mv) (.string (lowS n)) true).run Tryz.prog W = .ok (.tuple #[.agg #[.string t.name, .int .i64 t.syn, .bool t.single], .bool (tyOf ts n).isSome]) W := by
  refine ⟨_, rfl, fun W hb => ?_⟩
  rw [(h.below hb).look n hn]
  cases tyOf ts n <;> rfl
theorem CMap.looks {w0 w : World} {mv : Option Nat} {cs : List Cl} (h : CMap w0 w mv cs) (n : ByteArray) (hn : n.size ≤ 1000000000) :
    ∃ (d : Cv) (a1 : Option Addr) (p1 q1 : Nat) (a2 : Option Addr) (p2 q2 : Nat), d.hm = .slice a1 p1 q1 ∧ d.hy = .slice a2 p2 q2 ∧ ClGot w0 cs n d ∧
      ∀ W, Below w.heap.size w W → (Instr.lookup 66 (.map mv) (.string (lowS n)) true).run Tryz.prog W = .ok (.tuple #[.agg #[.string d.cl.name, .string d.cl.super, .slice a1 p1 q1, .slice a2 p2 q2], .bool (clOf cs n).isSome]) W := by
  obtain ⟨f, h, k⟩ := h
  have key : ∀ (z : Value) W, Below w.heap.size w W → (f (lowS n)).getD zeroClV = z → (f (lowS n)).isSome = (clOf cs n).isSome → (Instr.lookup 66 (.map mv) (.string (lowS n)) true).run Tryz.prog W = .ok (.tuple #[z, .bool (clOf cs n).isSome]) W := fun z W hb hz hs => by
    rw [(h.below hb).look_ok Tryz.underlying66 (Tryz.zeroValue57 _) (lowS n) (by rw [lowS_size]; unfold maxLen; omega), ← hz, ← hs]; rfl
  cases hc : clOf cs n with
  | none =>
    have hf := (k n).1 hc
    exact ⟨zeroCv, none, 0, 0, none, 0, 0, rfl, rfl, ⟨fun _ => rfl, fun c e => absurd (hc.symm.trans e) (by simp)⟩, fun W hb => by
      have := key zeroClV W hb (by rw [hf]; rfl) (by rw [hf, hc]; rfl)
      rw [hc] at this; exact this⟩
  | some c =>
    obtain ⟨d, e, ho, hf⟩ := (k n).2 c hc
    obtain ⟨⟨a1, p1, q1, e1, s1⟩, a2, p2, q2, e2, s2⟩ := ho
    refine ⟨d, a1, p1, q1, a2, p2, q2, e1, e2, ⟨(fun e => by rw [e] at hc; cases hc), fun c' e' => ⟨by rw [e]; rw [hc] at e'; exact Option.some.inj e', ⟨a1, p1, q1, e1, s1⟩, a2, p2, q2, e2, s2⟩⟩, fun W hb => ?_⟩
    have := key (cvV d) W hb (by rw [hf]; rfl) (by rw [hf, hc]; rfl)
    rw [hc] at this
    unfold cvV at this
    rw [e1, e2] at this
    exact this
set_option maxHeartbeats 4000000 in
theorem typeOf_s (mt mc : Option Nat) (ts : List Ty) (n : ByteArray) (w : World) (h : TMap w mt ts) (hn : n.size ≤ 1000000000) :
    Calls Tryz.prog 47 #[.agg #[.map mt, .map mc], .string n] w fun e w' => e = .returned (.tuple #[tyV ((tyOf ts n).getD zeroTy), .bool (tyOf ts n).isSome]) ∧ Below w.heap.size w w' := by
  obtain ⟨t, ht, hl⟩ := h.looks n hn
  unfold tyV
  rw [ht]
  obtain ⟨ok, hok⟩ : ∃ b, (tyOf ts n).isSome = b := ⟨_, rfl⟩
  rw [hok] at hl ⊢
  have HL := Lib.hid hl
  clear hl h hok ht
  have hb0 : Below w.heap.size w ((w.alloc (.cells #[.map mt, .map mc] 68)).alloc (.cells #[.string ⟨#[]⟩, .int .i64 0, .bool false] 32)) := ((Below.refl _ _).alloc (Nat.le_refl _) _).alloc (by simp) _
  have S0 := lsees (s := 2) (i := 0) (W := ((w.alloc (.cells #[.map mt, .map mc] 68)).alloc (.cells #[.string ⟨#[]⟩, .int .i64 0, .bool false] 32)).drew) HL.out (by go_simp) hb0.drew (by simp)
  clear hb0
  go_enter Tryz.func47, Tryz.ntmps47
  go_wp2_with fail
  refine wp_region_held_drew (S := fun W => W.cell? ⟨w.heap.size, 0, none⟩ = some (.map mt) ∧ (Instr.lookup 65 (.map mt) (.string (lowS n)) true).run Tryz.prog W = .ok (.tuple #[.agg #[.string t.name, .int .i64 t.syn, .bool t.single], .bool ok]) W ∧ Hid (Below w.heap.size w W ∧ w.heap.size + 2 ≤ W.heap.size)) (by kernel_rfl) (S0) (fun hS => ?_)
  refine wpAnyH_take (i := 0) (oi := { dst := some 9, op := _, type := _, pos := _, after := _, guard := _ }) (v := ?_) rfl (by kernel_rfl) (by kernel_rfl) (by kernel_rfl) (fun _ _ _ h => h) (Or.inl ⟨by rfl, ?_⟩) (by assumption) ?_
  rotate_left
  · intro w hSw
    try dsimp only at hSw
    go_simp
    try with_reducible rfl
  try simp only [Act.put, List.setIfInBounds_toArray, List.set_cons_zero, List.set_cons_succ]
  refine wpAnyH_take (i := 1) (oi := { dst := some 10, op := _, type := _, pos := _, after := _, guard := _ }) (v := ?_) rfl (by kernel_rfl) (by kernel_rfl) (by kernel_rfl) (fun _ _ _ h => h) (Or.inl ⟨by rfl, ?_⟩) (by assumption) ?_
  rotate_left
  · intro w hSw
    try dsimp only at hSw
    go_simp
    try with_reducible rfl
  try simp only [Act.put, List.setIfInBounds_toArray, List.set_cons_zero, List.set_cons_succ]
  refine wpAnyH_take (i := 2) (oi := { dst := some 11, op := _, type := _, pos := _, after := _, guard := _ }) (v := ?_) rfl (by kernel_rfl) (by kernel_rfl) (by kernel_rfl) (fun _ _ _ h => h) (Or.inl ⟨by rfl, ?_⟩) (by assumption) ?_
  rotate_left
  · intro w hSw
    try dsimp only at hSw
    go_simp
    try with_reducible rfl
  try simp only [Act.put, List.setIfInBounds_toArray, List.set_cons_zero, List.set_cons_succ]
  refine wpAnyH_ready (rs := [3, 8]) (by kernel_rfl) (by simp) ?_
  refine AllReadyH.cons rfl (fun K hK => ?_) (AllReadyH.cons rfl (fun K hK => ?_) AllReadyH.nil)
  · go_simp
    refine (lower_s n _ hn).mono ?_
    rintro e w5 ⟨rfl, hb⟩
    go_wp2_with fail
    refine hK.out _ _ ?_ (fun hHeld => ?_)
    · exact lsees_below HL.out (by assumption) hb
    clear hK K
    try simp only [Act.put, List.setIfInBounds_toArray, List.set_cons_zero, List.set_cons_succ]
    refine wpAnyH_take (i := 4) (oi := { dst := some 13, op := _, type := _, pos := _, after := _, guard := _ }) (v := ?_) rfl (by kernel_rfl) (by kernel_rfl) (by kernel_rfl) (fun _ _ _ h => h) (Or.inl ⟨by rfl, ?_⟩) (by assumption) ?_
    rotate_left
    · intro w hSw
      try dsimp only at hSw
      go_simp
      try with_reducible rfl
    try simp only [Act.put, List.setIfInBounds_toArray, List.set_cons_zero, List.set_cons_succ]
    refine wpAnyH_take (i := 5) (oi := { dst := some 8, op := _, type := _, pos := _, after := _, guard := _ }) (v := ?_) rfl (by kernel_rfl) (by kernel_rfl) (by kernel_rfl) (fun _ _ _ h => h) (Or.inl ⟨by rfl, ?_⟩) (by assumption) ?_
    rotate_left
    · intro w hSw
      try dsimp only at hSw
      go_simp
      try with_reducible rfl
    try simp only [Act.put, List.setIfInBounds_toArray, List.set_cons_zero, List.set_cons_succ]
    refine wpAnyH_take (i := 6) (oi := { dst := some 14, op := _, type := _, pos := _, after := _, guard := _ }) (v := ?_) rfl (by kernel_rfl) (by kernel_rfl) (by kernel_rfl) (fun _ _ _ h => h) (Or.inl ⟨by rfl, ?_⟩) (by assumption) ?_
    rotate_left
    · intro w hSw
      try dsimp only at hSw
      go_simp
      try with_reducible rfl
    try simp only [Act.put, List.setIfInBounds_toArray, List.set_cons_zero, List.set_cons_succ]
    refine wpAnyH_take (i := 7) (oi := { dst := some 15, op := _, type := _, pos := _, after := _, guard := _ }) (v := ?_) rfl (by kernel_rfl) (by kernel_rfl) (by kernel_rfl) (fun _ _ _ h => h) (Or.inl ⟨by rfl, ?_⟩) (by assumption) ?_
    rotate_left
    · intro w hSw
      try dsimp only at hSw
      go_simp
      try with_reducible rfl
    try simp only [Act.put, List.setIfInBounds_toArray, List.set_cons_zero, List.set_cons_succ]
    refine wpAnyH_ready (rs := [8]) (by kernel_rfl) (by simp) ?_
    refine AllReadyH.cons rfl (fun K hK => ?_) AllReadyH.nil
    go_simp
    refine hK.out _ _ ?_ (fun hHeld => ?_)
    · exact lsees_below HL.out (by assumption) ((Below.refl _ _).alloc (Nat.le_refl _) _)
    clear hK K
    try simp only [Act.put, List.setIfInBounds_toArray, List.set_cons_zero, List.set_cons_succ]
    refine wpAnyH_ready (rs := [9]) (by kernel_rfl) (by simp) ?_
    refine AllReadyH.cons rfl (fun K hK => ?_) AllReadyH.nil
    go_simp
    refine hK.out _ _ ?_ (fun hHeld => ?_)
    · exact lsees_below HL.out (by assumption) ((Below.refl _ w5).alloc (Nat.le_refl _) _)
    clear hK K
    try simp only [Act.put, List.setIfInBounds_toArray, List.set_cons_zero, List.set_cons_succ]
    refine wpAnyH_take (i := 10) (oi := { dst := some 7, op := _, type := _, pos := _, after := _, guard := _ }) (v := ?_) rfl (by kernel_rfl) (by kernel_rfl) (by kernel_rfl) (fun _ _ _ h => h) (Or.inl ⟨by rfl, ?_⟩) (by assumption) ?_
    rotate_left
    · intro w hSw
      try dsimp only at hSw
      go_simp
      try with_reducible rfl
    try simp only [Act.put, List.setIfInBounds_toArray, List.set_cons_zero, List.set_cons_succ]
    refine wpAnyH_done (by kernel_rfl) ?_ _
    have hS5 : (fun W => W.cell? ⟨w.heap.size, 0, none⟩ = some (.map mt) ∧ (Instr.lookup 65 (.map mt) (.string (lowS n)) true).run Tryz.prog W = .ok (.tuple #[.agg #[.string t.name, .int .i64 t.syn, .bool t.single], .bool ok]) W ∧ Hid (Below w.heap.size w W ∧ w.heap.size + 2 ≤ W.heap.size)) w5 := by assumption
    have hB5 := hS5.2.2
    have e0 : w5.cell? ⟨w.heap.size + 1, 0, none⟩ = some (.string ⟨#[]⟩) := cell_later hb (by go_simp)
    have e1 : w5.cell? ⟨w.heap.size + 1, 1, none⟩ = some (.int .i64 0) := cell_later hb (by go_simp)
    have e2 : w5.cell? ⟨w.heap.size + 1, 2, none⟩ = some (.bool false) := cell_later hb (by go_simp)
    have fe0 := frozen_later (i := 0) hb (b := w.heap.size + 1) (by simp) (by go_simp)
    have fe1 := frozen_later (i := 1) hb (b := w.heap.size + 1) (by simp) (by go_simp)
    have fe2 := frozen_later (i := 2) hb (b := w.heap.size + 1) (by simp) (by go_simp)
    have hlt : w.heap.size + 1 < w5.heap.size := hB5.out.2
    clear hS5
    go_wp2_with fail
    refine bodyPost_ret (v := .tuple #[.agg #[.string t.name, .int .i64 t.syn, .bool t.single], .bool ok]) (by simp only [results, Tryz.results47]; go_simp) rfl ?_
    refine ⟨rfl, ?_⟩
    have hf : w.heap.size ≤ w.heap.size + 1 := Nat.le_succ _
    have hg : w.heap.size ≤ w.heap.size + 1 + 1 := Nat.le_succ_of_le (Nat.le_succ _)
    exact (below_set1 (below_set1 (below_set1 (hB5.out.1) (w.heap.size + 1) 0 hf _) (w.heap.size + 1) 1 hf _) (w.heap.size + 1) 2 hf _).alloc (by simp only [set_size]; omega) _
  · go_simp
    refine hK.out _ _ ?_ (fun hHeld => ?_)
    · exact lsees_below HL.out (by assumption) ((Below.refl _ _).alloc (Nat.le_refl _) _)
    clear hK K
    try simp only [Act.put, List.setIfInBounds_toArray, List.set_cons_zero, List.set_cons_succ]
    refine wpAnyH_ready (rs := [3]) (by kernel_rfl) (by simp) ?_
    refine AllReadyH.cons rfl (fun K hK => ?_) AllReadyH.nil
    go_simp
    refine (lower_s n _ hn).mono ?_
    rintro e w5 ⟨rfl, hb⟩
    have c0 : w5.cell? ⟨w.heap.size + 1 + 1, 0, none⟩ = some (.string ⟨#[]⟩) := cell_later hb (by go_simp)
    have c1 : w5.cell? ⟨w.heap.size + 1 + 1, 1, none⟩ = some (.int .i64 0) := cell_later hb (by go_simp)
    have c2 : w5.cell? ⟨w.heap.size + 1 + 1, 2, none⟩ = some (.bool false) := cell_later hb (by go_simp)
    have fc0 := frozen_later (i := 0) hb (b := w.heap.size + 1 + 1) (by simp) (by go_simp)
    have fc1 := frozen_later (i := 1) hb (b := w.heap.size + 1 + 1) (by simp) (by go_simp)
    have fc2 := frozen_later (i := 2) hb (b := w.heap.size + 1 + 1) (by simp) (by go_simp)
    go_wp2_with fail
    refine hK.out _ _ ?_ (fun hHeld => ?_)
    · exact lsees_below HL.out (by assumption) hb
    clear hK K
    try simp only [Act.put, List.setIfInBounds_toArray, List.set_cons_zero, List.set_cons_succ]
    refine wpAnyH_take (i := 4) (oi := { dst := some 13, op := _, type := _, pos := _, after := _, guard := _ }) (v := ?_) rfl (by kernel_rfl) (by kernel_rfl) (by kernel_rfl) (fun _ _ _ h => h) (Or.inl ⟨by rfl, ?_⟩) (by assumption) ?_
    rotate_left
    · intro w hSw
      try dsimp only at hSw
      go_simp
      try with_reducible rfl
    try simp only [Act.put, List.setIfInBounds_toArray, List.set_cons_zero, List.set_cons_succ]
    refine wpAnyH_take (i := 5) (oi := { dst := some 8, op := _, type := _, pos := _, after := _, guard := _ }) (v := ?_) rfl (by kernel_rfl) (by kernel_rfl) (by kernel_rfl) (fun _ _ _ h => h) (Or.inl ⟨by rfl, ?_⟩) (by assumption) ?_
    rotate_left
    · intro w hSw
      try dsimp only at hSw
      go_simp
      try with_reducible rfl
    try simp only [Act.put, List.setIfInBounds_toArray, List.set_cons_zero, List.set_cons_succ]
    refine wpAnyH_take (i := 6) (oi := { dst := some 14, op := _, type := _, pos := _, after := _, guard := _ }) (v := ?_) rfl (by kernel_rfl) (by kernel_rfl) (by kernel_rfl) (fun _ _ _ h => h) (Or.inl ⟨by rfl, ?_⟩) (by assumption) ?_
    rotate_left
    · intro w hSw
      try dsimp only at hSw
      go_simp
      try with_reducible rfl
    try simp only [Act.put, List.setIfInBounds_toArray, List.set_cons_zero, List.set_cons_succ]
    refine wpAnyH_take (i := 7) (oi := { dst := some 15, op := _, type := _, pos := _, after := _, guard := _ }) (v := ?_) rfl (by kernel_rfl) (by kernel_rfl) (by kernel_rfl) (fun _ _ _ h => h) (Or.inl ⟨by rfl, ?_⟩) (by assumption) ?_
    rotate_left
    · intro w hSw
      try dsimp only at hSw
      go_simp
      try with_reducible rfl
    try simp only [Act.put, List.setIfInBounds_toArray, List.set_cons_zero, List.set_cons_succ]
    refine wpAnyH_ready (rs := [9]) (by kernel_rfl) (by simp) ?_
    refine AllReadyH.cons rfl (fun K hK => ?_) AllReadyH.nil
    go_simp
    refine hK.out _ _ ?_ (fun hHeld => ?_)
    · exact (lsees_set HL.out (w.heap.size + 1 + 1) 2 _ (Nat.lt_succ_of_le (Nat.le_succ _)) (lsees_set HL.out (w.heap.size + 1 + 1) 1 _ (Nat.lt_succ_of_le (Nat.le_succ _)) (lsees_set HL.out (w.heap.size + 1 + 1) 0 _ (Nat.lt_succ_of_le (Nat.le_succ _)) (by assumption))))
    clear hK K
    try simp only [Act.put, List.setIfInBounds_toArray, List.set_cons_zero, List.set_cons_succ]
    refine wpAnyH_take (i := 10) (oi := { dst := some 7, op := _, type := _, pos := _, after := _, guard := _ }) (v := ?_) rfl (by kernel_rfl) (by kernel_rfl) (by kernel_rfl) (fun _ _ _ h => h) (Or.inl ⟨by rfl, ?_⟩) (by assumption) ?_
    rotate_left
    · intro w hSw
      try dsimp only at hSw
      go_simp
      try with_reducible rfl
    try simp only [Act.put, List.setIfInBounds_toArray, List.set_cons_zero, List.set_cons_succ]
    refine wpAnyH_done (by kernel_rfl) ?_ _
    have hS5 : (fun W => W.cell? ⟨w.heap.size, 0, none⟩ = some (.map mt) ∧ (Instr.lookup 65 (.map mt) (.string (lowS n)) true).run Tryz.prog W = .ok (.tuple #[.agg #[.string t.name, .int .i64 t.syn, .bool t.single], .bool ok]) W ∧ Hid (Below w.heap.size w W ∧ w.heap.size + 2 ≤ W.heap.size)) w5 := by assumption
    have hB5 := hS5.2.2
    have e0 : w5.cell? ⟨w.heap.size + 1, 0, none⟩ = some (.string ⟨#[]⟩) := cell_later hb (by go_simp)
    have e1 : w5.cell? ⟨w.heap.size + 1, 1, none⟩ = some (.int .i64 0) := cell_later hb (by go_simp)
    have e2 : w5.cell? ⟨w.heap.size + 1, 2, none⟩ = some (.bool false) := cell_later hb (by go_simp)
    have fe0 := frozen_later (i := 0) hb (b := w.heap.size + 1) (by simp) (by go_simp)
    have fe1 := frozen_later (i := 1) hb (b := w.heap.size + 1) (by simp) (by go_simp)
    have fe2 := frozen_later (i := 2) hb (b := w.heap.size + 1) (by simp) (by go_simp)
    have hlt : w.heap.size + 1 < w5.heap.size := hB5.out.2
    clear hS5
    go_wp2_with fail
    refine bodyPost_ret (v := .tuple #[.agg #[.string t.name, .int .i64 t.syn, .bool t.single], .bool ok]) (by simp only [results, Tryz.results47]; go_simp) rfl ?_
    refine ⟨rfl, ?_⟩
    have hf : w.heap.size ≤ w.heap.size + 1 := Nat.le_succ _
    have hg : w.heap.size ≤ w.heap.size + 1 + 1 := Nat.le_succ_of_le (Nat.le_succ _)
    exact below_set1 (below_set1 (below_set1 (below_set1 (below_set1 (below_set1 (hB5.out.1) (w.heap.size + 1 + 1) 0 hg _) (w.heap.size + 1 + 1) 1 hg _) (w.heap.size + 1 + 1) 2 hg _) (w.heap.size + 1) 0 hf _) (w.heap.size + 1) 1 hf _) (w.heap.size + 1) 2 hf _
end Go.Proofs.YtclfjdnemafmeaaGreatDoor
end

section
/-
  Contract of the table's addType: a type is put in, unless it has an error. Condition: fewer than 1000000 types, names of at most 1000000000 bytes.
-/
set_option maxRecDepth 100000
namespace Go.Proofs.YtclfjdnemafmeaaGreatDoor
open Go.RowKit Go.PlainAid
/-- the error of a type that comes behind others -/
def errTy (ts : List Ty) (t : Ty) : Int :=
  if nameB t.name = false then 5 else if (tyOf ts t.name).isSome = true then 7 else if t.syn < 1 ∨ 5 < t.syn then 8 else 0
theorem errT_take (ts : List Ty) (j : Nat) : errT ts j = errTy (ts.take j) (tyAt ts j) := rfl
theorem grown_of_below {w w' : World} {row : Option Nat} (h : Below w.heap.size w w') : w.grownBy w' row := ⟨h.os, h.tape, h.output, h.size, fun k hk _ => h.block k hk⟩
theorem keepG {w w1 w2 : World} {row : Option Nat} {f : Nat} (h : Hid (w.grownBy w1 row ∧ f ≤ w1.heap.size)) (hb : Below w1.heap.size w1 w2) : Hid (w.grownBy w2 row ∧ f ≤ w2.heap.size) :=
  Lib.hid ⟨grown_two h.out.1 (grown_of_below hb), Nat.le_trans h.out.2 hb.size⟩
theorem keepGG {w w1 w2 : World} {row : Option Nat} {f : Nat} (h : Hid (w.grownBy w1 row ∧ f ≤ w1.heap.size)) (hb : w1.grownBy w2 row) : Hid (w.grownBy w2 row ∧ f ≤ w2.heap.size) :=
  Lib.hid ⟨grown_two h.out.1 hb, Nat.le_trans h.out.2 hb.size⟩
theorem keepG5 {w w1 w2 : World} {row : Option Nat} {f : Nat} {A B C D : Addr} {x y z u : Value} (h : w1.cell? A = some x ∧ w1.cell? B = some y ∧ w1.cell? C = some z ∧ w1.cell? D = some u ∧ Hid (w.grownBy w1 row ∧ f ≤ w1.heap.size)) (hb : Below w1.heap.size w1 w2) :
    w2.cell? A = some x ∧ w2.cell? B = some y ∧ w2.cell? C = some z ∧ w2.cell? D = some u ∧ Hid (w.grownBy w2 row ∧ f ≤ w2.heap.size) :=
  ⟨cell_later hb h.1, cell_later hb h.2.1, cell_later hb h.2.2.1, cell_later hb h.2.2.2.1, keepG h.2.2.2.2 hb⟩
theorem cell_turned {w w' : World} {g : Nat} {A : Addr} {x : Value} (h : w.cell? A = some x) (hg : w.grownBy w' (some g)) (hA : A.block ≠ g) : w'.cell? A = some x := hg.cell h (fun e => hA (Option.some.inj e))
theorem keepGG5 {w w1 w2 : World} {g : Nat} {f : Nat} {A B C D : Addr} {x y z u : Value} (h : w1.cell? A = some x ∧ w1.cell? B = some y ∧ w1.cell? C = some z ∧ w1.cell? D = some u ∧ Hid (w.grownBy w1 (some g) ∧ f ≤ w1.heap.size)) (hb : w1.grownBy w2 (some g))
    (hA : A.block ≠ g) (hB : B.block ≠ g) (hC : C.block ≠ g) (hD : D.block ≠ g) :
    w2.cell? A = some x ∧ w2.cell? B = some y ∧ w2.cell? C = some z ∧ w2.cell? D = some u ∧ Hid (w.grownBy w2 (some g) ∧ f ≤ w2.heap.size) :=
  ⟨cell_turned h.1 hb hA, cell_turned h.2.1 hb hB, cell_turned h.2.2.1 hb hC, cell_turned h.2.2.2.1 hb hD, keepGG h.2.2.2.2 hb⟩
set_option maxHeartbeats 4000000 in
theorem addType_s (bt : Nat) (mc : Option Nat) (k : Nat) (ts : List Ty) (t : Ty) (w : World) (h : TOpen w bt k ts) (hk : k < 1000000) (hz : t.name.size ≤ 1000000000) :
    Calls Tryz.prog 81 #[.agg #[.map (some bt), .map mc], .agg #[.string t.name, .int .i64 t.syn, .bool t.single]] w fun e w' =>
      e = .returned (.int .i64 (errTy ts t)) ∧ w.grownBy w' (some bt) ∧ (errTy ts t = 0 → TOpen w' bt (k + 1) (ts ++ [t])) := by
  obtain ⟨nm, syn, sg⟩ := t
  simp only at hz ⊢
  have hbl : bt < w.heap.size := h.lt
  have hb0 : Below w.heap.size w ((w.alloc (.cells #[.map (some bt), .map mc] 68)).alloc (.cells #[.string nm, .int .i64 syn, .bool sg] 32)) := ((Below.refl _ _).alloc (Nat.le_refl _) _).alloc (by simp) _
  have HB0 := Lib.hid hb0
  have HO := Lib.hid h
  have HC := Lib.hid (typeOf_s (some bt) mc ts nm _ (h.map.below hb0) hz)
  obtain ⟨u, hu⟩ : ∃ u, (tyOf ts nm).getD zeroTy = u := ⟨_, rfl⟩
  obtain ⟨tw, htw⟩ : ∃ b, (tyOf ts nm).isSome = b := ⟨_, rfl⟩
  unfold tyV at HC
  rw [hu, htw] at HC
  have HW := Lib.hid htw
  clear h hu htw hb0
  obtain ⟨nb, hnb⟩ : ∃ b, nameB nm = b := ⟨_, rfl⟩
  have HNB := Lib.hid hnb; clear hnb
  obtain ⟨d1, hd1⟩ : ∃ b, decide (syn < 1) = b := ⟨_, rfl⟩
  obtain ⟨d2, hd2⟩ : ∃ b, decide (5 < syn) = b := ⟨_, rfl⟩
  have HE := Lib.hid (show errTy ts ⟨nm, syn, sg⟩ = if nb = false then 5 else if tw = true then 7 else if d1 = true ∨ d2 = true then 8 else 0 by
    unfold errTy; simp only; rw [HNB.out, HW.out, ← hd1, ← hd2]; simp)
  go_enter Tryz.func81, Tryz.ntmps81
  go_wp2_with fail
  refine HC.out.mono ?_
  rintro e w1 ⟨rfl, hb⟩
  have a0 : w1.cell? ⟨w.heap.size + 1, 0, none⟩ = some (.string nm) := cell_later hb (by go_simp)
  have a1 : w1.cell? ⟨w.heap.size + 1, 1, none⟩ = some (.int .i64 syn) := cell_later hb (by go_simp)
  have a2 : w1.cell? ⟨w.heap.size + 1, 2, none⟩ = some (.bool sg) := cell_later hb (by go_simp)
  have a3 : w1.cell? ⟨w.heap.size, 0, none⟩ = some (.map (some bt)) := cell_later hb (by go_simp)
  have hs1 : w.heap.size + 1 < w1.heap.size := by have := hb.size; simp at this; omega
  have HB1 := Lib.hid (HB0.out.trans (hb.mono (by simp; omega)))
  clear hb HB0 HC
  go_wp2_with fail
  refine (name_s nm _ hz).mono ?_
  rintro e w2 ⟨rfl, rfl⟩
  rw [HNB.out]
  have HG := Lib.hid (grown_of_below (row := some bt) (HB1.out.alloc (by omega) (.cells #[.string u.name, .int .i64 u.syn, .bool u.single] 32)))
  have fin : ∀ c, errTy ts ⟨nm, syn, sg⟩ = c → c ≠ 0 → ∀ W, w.grownBy W (some bt) → (Ending.returned (.int .i64 c) = .returned (.int .i64 (errTy ts ⟨nm, syn, sg⟩)) ∧ w.grownBy W (some bt) ∧ (errTy ts ⟨nm, syn, sg⟩ = 0 → TOpen W bt (k + 1) (ts ++ [⟨nm, syn, sg⟩]))) :=
    fun c h1 h2 W h3 => ⟨by rw [h1], h3, fun h => absurd (h1.symm.trans h) h2⟩
  have FIN := Lib.hid fin; clear fin
  cases nb
  · have HE5 := Lib.hid (HE.out.trans rfl)
    go_wp2_with fail
    go_ret
    exact FIN.out 5 HE5.out (by decide) _ HG.out
  · cases tw
    · cases d1
      · cases d2
        · have HE5 := Lib.hid (show errTy ts ⟨nm, syn, sg⟩ = 0 from HE.out.trans (by simp))
          have hnone : tyOf ts nm = none := by
            have := HW.out
            cases e : tyOf ts nm with
            | none => rfl
            | some x => rw [e] at this; cases this
          have HN := Lib.hid hnone; clear hnone
          have HX : Hid (Below w1.heap.size w1 (w1.alloc (.cells #[.string u.name, .int .i64 u.syn, .bool u.single] 32)).drew) := Lib.hid ((Below.refl _ _).alloc (Nat.le_refl _) _).drew
          have S0 := keepG5 (f := w.heap.size + 2) ⟨a3, a0, a1, a2, Lib.hid ⟨grown_of_below (row := some bt) HB1.out, by omega⟩⟩ HX.out
          go_wp2_with fail
          refine wp_region_held_drew (S := fun W => W.cell? ⟨w.heap.size, 0, none⟩ = some (.map (some bt)) ∧ W.cell? ⟨w.heap.size + 1, 0, none⟩ = some (.string nm) ∧ W.cell? ⟨w.heap.size + 1, 1, none⟩ = some (.int .i64 syn) ∧ W.cell? ⟨w.heap.size + 1, 2, none⟩ = some (.bool sg) ∧ Hid (w.grownBy W (some bt) ∧ w.heap.size + 2 ≤ W.heap.size)) (by kernel_rfl) (S0) (fun hS => ?_)
          refine wpAnyH_take (i := 0) (oi := { dst := some 30, op := _, type := _, pos := _, after := _, guard := _ }) (v := ?_) rfl (by kernel_rfl) (by kernel_rfl) (by kernel_rfl) (fun _ _ _ h => h) (Or.inl ⟨by rfl, ?_⟩) (by assumption) ?_
          rotate_left
          · intro w hSw
            try dsimp only at hSw
            go_simp
            try with_reducible rfl
          try simp only [Act.put, List.setIfInBounds_toArray, List.set_cons_zero, List.set_cons_succ]
          refine wpAnyH_take (i := 1) (oi := { dst := some 31, op := _, type := _, pos := _, after := _, guard := _ }) (v := ?_) rfl (by kernel_rfl) (by kernel_rfl) (by kernel_rfl) (fun _ _ _ h => h) (Or.inl ⟨by rfl, ?_⟩) (by assumption) ?_
          rotate_left
          · intro w hSw
            try dsimp only at hSw
            go_simp
            try with_reducible rfl
          try simp only [Act.put, List.setIfInBounds_toArray, List.set_cons_zero, List.set_cons_succ]
          refine wpAnyH_take (i := 2) (oi := { dst := some 32, op := _, type := _, pos := _, after := _, guard := _ }) (v := ?_) rfl (by kernel_rfl) (by kernel_rfl) (by kernel_rfl) (fun _ _ _ h => h) (Or.inl ⟨by rfl, ?_⟩) (by assumption) ?_
          rotate_left
          · intro w hSw
            try dsimp only at hSw
            go_simp
            try with_reducible rfl
          try simp only [Act.put, List.setIfInBounds_toArray, List.set_cons_zero, List.set_cons_succ]
          refine wpAnyH_take (i := 3) (oi := { dst := some 33, op := _, type := _, pos := _, after := _, guard := _ }) (v := ?_) rfl (by kernel_rfl) (by kernel_rfl) (by kernel_rfl) (fun _ _ _ h => h) (Or.inl ⟨by rfl, ?_⟩) (by assumption) ?_
          rotate_left
          · intro w hSw
            try dsimp only at hSw
            go_simp
            try with_reducible rfl
          try simp only [Act.put, List.setIfInBounds_toArray, List.set_cons_zero, List.set_cons_succ]
          refine wpAnyH_take (i := 5) (oi := { dst := some 35, op := _, type := _, pos := _, after := _, guard := _ }) (v := ?_) rfl (by kernel_rfl) (by kernel_rfl) (by kernel_rfl) (fun _ _ _ h => h) (Or.inl ⟨by rfl, ?_⟩) (by assumption) ?_
          rotate_left
          · intro w hSw
            try dsimp only at hSw
            go_simp
            try with_reducible rfl
          try simp only [Act.put, List.setIfInBounds_toArray, List.set_cons_zero, List.set_cons_succ]
          refine wpAnyH_ready (rs := [4]) (by kernel_rfl) (by simp) ?_
          refine AllReadyH.cons rfl (fun K hK => ?_) AllReadyH.nil
          go_simp
          refine (lower_s nm _ hz).mono ?_
          rintro e w5 ⟨rfl, hb⟩
          have hT5 := (HO.out.below HB1.out hbl).below (HX.out.trans (hb.mono (by simp))) (by omega)
          obtain ⟨w6, hrun6, hT6, hg6⟩ := hT5.store ⟨nm, syn, sg⟩ hk hz HN.out
          clear hT5
          unfold tyV at hrun6
          dsimp only at hrun6
          go_wp2_with fail
          refine hK.out _ _ ?_ (fun hHeld => ?_)
          · exact keepG5 (by assumption) hb
          clear hK K
          try simp only [Act.put, List.setIfInBounds_toArray, List.set_cons_zero, List.set_cons_succ]
          refine wpAnyH_ready (rs := [6]) (by kernel_rfl) (by simp) ?_
          refine AllReadyH.cons rfl (fun K hK => ?_) AllReadyH.nil
          go_simp
          refine hK.out _ _ ?_ (fun hHeld => ?_)
          · exact keepGG5 (by assumption) hg6 (by show w.heap.size ≠ bt; omega) (by show w.heap.size + 1 ≠ bt; omega) (by show w.heap.size + 1 ≠ bt; omega) (by show w.heap.size + 1 ≠ bt; omega)
          clear hK K
          try simp only [Act.put, List.setIfInBounds_toArray, List.set_cons_zero, List.set_cons_succ]
          refine wpAnyH_done (by kernel_rfl) ?_ _
          have hS6 : w6.cell? ⟨w.heap.size, 0, none⟩ = some (.map (some bt)) ∧ w6.cell? ⟨w.heap.size + 1, 0, none⟩ = some (.string nm) ∧ w6.cell? ⟨w.heap.size + 1, 1, none⟩ = some (.int .i64 syn) ∧ w6.cell? ⟨w.heap.size + 1, 2, none⟩ = some (.bool sg) ∧ Hid (w.grownBy w6 (some bt) ∧ w.heap.size + 2 ≤ w6.heap.size) := by assumption
          have HG6 := hS6.2.2.2.2
          have HT6 := Lib.hid hT6
          clear hS6 hT6 hg6 hrun6 hb
          go_wp2_with fail
          go_ret
          exact ⟨by rw [HE5.out]; rfl, HG6.out.1, fun _ => HT6.out⟩
        · have HE5 := Lib.hid (HE.out.trans rfl)
          go_wp2_with fail
          go_ret
          exact FIN.out 8 HE5.out (by decide) _ HG.out
      · have HE5 := Lib.hid (HE.out.trans rfl)
        go_wp2_with fail
        go_ret
        exact FIN.out 8 HE5.out (by decide) _ HG.out
    · have HE5 := Lib.hid (HE.out.trans rfl)
      go_wp2_with fail
      go_ret
      exact FIN.out 7 HE5.out (by decide) _ HG.out
end Go.Proofs.YtclfjdnemafmeaaGreatDoor
end
