/-
  Texts of the schema layer and of those beneath it, joined: SchMem, SchL, SchIx, SchOrC, SchC, MapRaw, SchT, SchLn, SchVl, SchVal. Conditions stand at each contract.
-/
import Derived.Lib.SmallJoins
import Derived.Test.YtonfkhkalodldabGreatDoorT06
set_option linter.unusedVariables false
set_option linter.unusedSimpArgs false
set_option linter.unnecessarySimpa false

section
set_option maxRecDepth 100000
namespace Go.Proofs.YtonfkhkalodldabGreatDoor
open Go.ChangeShapes Go.WideShapes Go.ChangeAt Go.RowKit Go.PlainAid
/-! ### elements of three and of four one-cell fields -/
section
variable {H : Type} {enc : TypeId × Value → H} {P : Program} {w : World} {base : Nat} {spare : Nat → Bool} {held : Bool}
theorem elem3 {e : TypeId} {f0 f1 f2 : Field} {n : Nat} {a : Addr} {cs : List Value} {y : DataW H × List MemPlace} (he : P.underlying e = some (.struct #[f0, f1, f2])) (ce : P.cellsOf e = 3)
  (o0 : f0.offset = 0) (o1 : f1.offset = 1) (o2 : f2.offset = 2) (c0 : P.cellsOf f0.type = 1) (c1 : P.cellsOf f1.type = 1) (c2 : P.cellsOf f2.type = 1)
  (h1 : w.cells? base a (P.cellsOf e) = some cs) (h2 : DataW.trod enc P w base spare held n e cs = some y) :
  ∃ v0 v1 v2 y0 y1 y2 m, w.cell? a = some v0 ∧ w.cell? (a.add 1) = some v1 ∧ w.cell? (a.add 2) = some v2 ∧ DataW.trod enc P w base spare held m f0.type [v0] = some y0 ∧ DataW.trod enc P w base spare held m f1.type [v1] = some y1 ∧ DataW.trod enc P w base spare held m f2.type [v2] = some y2 ∧ y.1 = .agg [y0.1, y1.1, y2.1] := by
 rw [ce] at h1
 obtain ⟨_, hlen, hcell⟩ := World.cells?_some h1
 obtain ⟨xs, k, hk, hxy, _, hxl, hf⟩ := DataW.trod_struct he h2
 match xs, hxl, cs, hlen with
 | [y0, y1, y2], _, [v0, v1, v2], _ =>
  have g0 := hf 0 f0 rfl
  have g1 := hf 1 f1 rfl
  have g2 := hf 2 f2 rfl
  simp [o0, o1, o2, c0, c1, c2] at g0 g1 g2
  have e0 := hcell 0 (by omega)
  have e1 := hcell 1 (by omega)
  have e2 := hcell 2 (by omega)
  exact ⟨v0, v1, v2, y0, y1, y2, k, by simpa [Addr.add] using e0, by simpa using e1, by simpa using e2, g0, g1, g2, by rw [hxy]; simp⟩
theorem elem4 {e : TypeId} {f0 f1 f2 f3 : Field} {n : Nat} {a : Addr} {cs : List Value} {y : DataW H × List MemPlace} (he : P.underlying e = some (.struct #[f0, f1, f2, f3])) (ce : P.cellsOf e = 4)
  (o0 : f0.offset = 0) (o1 : f1.offset = 1) (o2 : f2.offset = 2) (o3 : f3.offset = 3) (c0 : P.cellsOf f0.type = 1) (c1 : P.cellsOf f1.type = 1) (c2 : P.cellsOf f2.type = 1) (c3 : P.cellsOf f3.type = 1)
  (h1 : w.cells? base a (P.cellsOf e) = some cs) (h2 : DataW.trod enc P w base spare held n e cs = some y) :
  ∃ v0 v1 v2 v3 y0 y1 y2 y3 m, w.cell? a = some v0 ∧ w.cell? (a.add 1) = some v1 ∧ w.cell? (a.add 2) = some v2 ∧ w.cell? (a.add 3) = some v3 ∧ DataW.trod enc P w base spare held m f0.type [v0] = some y0 ∧ DataW.trod enc P w base spare held m f1.type [v1] = some y1 ∧ DataW.trod enc P w base spare held m f2.type [v2] = some y2 ∧ DataW.trod enc P w base spare held m f3.type [v3] = some y3 ∧ y.1 = .agg [y0.1, y1.1, y2.1, y3.1] := by
 rw [ce] at h1
 obtain ⟨_, hlen, hcell⟩ := World.cells?_some h1
 obtain ⟨xs, k, hk, hxy, _, hxl, hf⟩ := DataW.trod_struct he h2
 match xs, hxl, cs, hlen with
 | [y0, y1, y2, y3], _, [v0, v1, v2, v3], _ =>
  have g0 := hf 0 f0 rfl
  have g1 := hf 1 f1 rfl
  have g2 := hf 2 f2 rfl
  have g3 := hf 3 f3 rfl
  simp [o0, o1, o2, o3, c0, c1, c2, c3] at g0 g1 g2 g3
  have e0 := hcell 0 (by omega)
  have e1 := hcell 1 (by omega)
  have e2 := hcell 2 (by omega)
  have e3 := hcell 3 (by omega)
  exact ⟨v0, v1, v2, v3, y0, y1, y2, y3, k, by simpa [Addr.add] using e0, by simpa using e1, by simpa using e2, by simpa using e3, g0, g1, g2, g3, by rw [hxy]; simp⟩
end
theorem choose_list {α : Type} {n : Nat} (d : α) {Q : Nat → α → Prop} (h : ∀ i, i < n → ∃ a, Q i a) : ∃ l : List α, l.length = n ∧ ∀ i, i < n → Q i (l.getD i d) := by
 induction n with
 | zero => exact ⟨[], rfl, fun i hi => absurd hi (Nat.not_lt_zero _)⟩
 | succ n ih =>
  obtain ⟨l, hl, hp⟩ := ih (fun i hi => h i (by omega))
  obtain ⟨a, ha⟩ := h n (by omega)
  refine ⟨l ++ [a], by simp [hl], fun i hi => ?_⟩
  by_cases e : i = n
  ·subst e
   rw [List.getD_eq_getElem?_getD, List.getElem?_append_right (by omega), hl]
   simpa using ha
  ·rw [List.getD_eq_getElem?_getD, List.getElem?_append_left (by omega), ← List.getD_eq_getElem?_getD]
   exact hp i (by omega)
/-! ### types -/
structure Ty where
 name : ByteArray
 syn : Int
 single : Bool
structure Cl where
 name : ByteArray
 super : ByteArray
 must : List ByteArray
 may : List ByteArray
instance : Inhabited Ty := ⟨⟨⟨#[]⟩, 0, false⟩⟩
instance : Inhabited Cl := ⟨⟨⟨#[]⟩, ⟨#[]⟩, [], []⟩⟩
def tyAt (l : List Ty) (j : Nat) : Ty := l.getD j default
def clAt (l : List Cl) (j : Nat) : Cl := l.getD j default
theorem ty_mem (l : List Ty) (j : Nat) (h : j < l.length) : tyAt l j ∈ l := by
 unfold tyAt; rw [List.getD_eq_getElem?_getD, List.getElem?_eq_getElem h]; exact List.getElem_mem h
theorem cl_mem (l : List Cl) (j : Nat) (h : j < l.length) : clAt l j ∈ l := by
 unfold clAt; rw [List.getD_eq_getElem?_getD, List.getElem?_eq_getElem h]; exact List.getElem_mem h
theorem mem_ty {l : List Ty} {t : Ty} (h : t ∈ l) : ∃ j, j < l.length ∧ tyAt l j = t := by
 obtain ⟨j, hj, e⟩ := List.mem_iff_getElem.1 h
 exact ⟨j, hj, by unfold tyAt; rw [List.getD_eq_getElem?_getD, List.getElem?_eq_getElem hj]; exact e⟩
theorem mem_cl {l : List Cl} {t : Cl} (h : t ∈ l) : ∃ j, j < l.length ∧ clAt l j = t := by
 obtain ⟨j, hj, e⟩ := List.mem_iff_getElem.1 h
 exact ⟨j, hj, by unfold clAt; rw [List.getD_eq_getElem?_getD, List.getElem?_eq_getElem hj]; exact e⟩
def TyAt (w : World) (b off : Nat) (t : Ty) : Prop :=
 w.cell? ⟨b, off, none⟩ = some (.string t.name) ∧ w.cell? ⟨b, off + 1, none⟩ = some (.int .i64 t.syn) ∧ w.cell? ⟨b, off + 2, none⟩ = some (.bool t.single)
theorem TyAt.below {w w' : World} {b off : Nat} {t : Ty} (h : TyAt w b off t) (hb : Below w.heap.size w w') : TyAt w' b off t :=
 ⟨cell_later hb h.1, cell_later hb h.2.1, cell_later hb h.2.2⟩
def TysAt (w : World) (ao : Option Addr) (n cap : Nat) (l : List Ty) : Prop :=
 l.length = n ∧ n ≤ cap ∧ cap ≤ maxLen ∧ (0 < n → ∃ b off, ao = some ⟨b, off, none⟩ ∧ b < w.heap.size ∧ ∀ j, j < n → TyAt w b (off + j * 3) (tyAt l j))
theorem TysAt.below {w w' : World} {ao : Option Addr} {n cap : Nat} {l : List Ty} (h : TysAt w ao n cap l) (hb : Below w.heap.size w w') : TysAt w' ao n cap l :=
 ⟨h.1, h.2.1, h.2.2.1, fun hn => by
  obtain ⟨b, off, e, hi, ha⟩ := h.2.2.2 hn
  exact ⟨b, off, e, Nat.lt_of_lt_of_le hi hb.size, fun j hj => (ha j hj).below hb⟩⟩
def ClAt (w : World) (b off : Nat) (c : Cl) : Prop :=
 w.cell? ⟨b, off, none⟩ = some (.string c.name) ∧ w.cell? ⟨b, off + 1, none⟩ = some (.string c.super) ∧
  (∃ vo vn vc, w.cell? ⟨b, off + 2, none⟩ = some (.slice vo vn vc) ∧ StrsAt w vo vn vc c.must) ∧ ∃ vo vn vc, w.cell? ⟨b, off + 3, none⟩ = some (.slice vo vn vc) ∧ StrsAt w vo vn vc c.may
theorem ClAt.below {w w' : World} {b off : Nat} {c : Cl} (h : ClAt w b off c) (hb : Below w.heap.size w w') : ClAt w' b off c := by
 obtain ⟨h0, h1, ⟨vo, vn, vc, h2, h3⟩, uo, un, uc, h4, h5⟩ := h
 exact ⟨cell_later hb h0, cell_later hb h1, ⟨vo, vn, vc, cell_later hb h2, h3.below hb⟩, uo, un, uc, cell_later hb h4, h5.below hb⟩
def ClsAt (w : World) (ao : Option Addr) (n cap : Nat) (l : List Cl) : Prop :=
 l.length = n ∧ n ≤ cap ∧ cap ≤ maxLen ∧ (0 < n → ∃ b off, ao = some ⟨b, off, none⟩ ∧ b < w.heap.size ∧ ∀ j, j < n → ClAt w b (off + j * 4) (clAt l j))
theorem ClsAt.below {w w' : World} {ao : Option Addr} {n cap : Nat} {l : List Cl} (h : ClsAt w ao n cap l) (hb : Below w.heap.size w w') : ClsAt w' ao n cap l :=
 ⟨h.1, h.2.1, h.2.2.1, fun hn => by
  obtain ⟨b, off, e, hi, ha⟩ := h.2.2.2 hn
  exact ⟨b, off, e, Nat.lt_of_lt_of_le hi hb.size, fun j hj => (ha j hj).below hb⟩⟩
theorem cells_ty : Tryz.prog.cellsOf 104 = 3 := by kernel_rfl
theorem cells_cl : Tryz.prog.cellsOf 106 = 4 := by kernel_rfl
theorem und_syntax : Tryz.prog.underlying 102 = some (.int .i64) := by kernel_rfl
end Go.Proofs.YtonfkhkalodldabGreatDoor
end

section
set_option maxRecDepth 100000
namespace Go.Proofs.YtonfkhkalodldabGreatDoor
open Go.RowKit Go.PlainAid
def tyOf (l : List Ty) (n : ByteArray) : Option Ty := l.find? fun t => decide (lowS t.name = lowS n)
def clOf (l : List Cl) (n : ByteArray) : Option Cl := l.find? fun c => decide (lowS c.name = lowS n)
theorem tyOf_low (l : List Ty) (n : ByteArray) : tyOf l (lowS n) = tyOf l n := by unfold tyOf; rw [lowS_low]
theorem clOf_low (l : List Cl) (n : ByteArray) : clOf l (lowS n) = clOf l n := by unfold clOf; rw [lowS_low]
theorem ty_take (l : List Ty) (k : Nat) (h : k < l.length) : l.take (k + 1) = l.take k ++ [tyAt l k] := by
 unfold tyAt; rw [List.getD_eq_getElem?_getD, List.getElem?_eq_getElem h]; exact List.take_succ_eq_append_getElem h
theorem cl_take (l : List Cl) (k : Nat) (h : k < l.length) : l.take (k + 1) = l.take k ++ [clAt l k] := by
 unfold clAt; rw [List.getD_eq_getElem?_getD, List.getElem?_eq_getElem h]; exact List.take_succ_eq_append_getElem h
theorem tyOf_snoc (l : List Ty) (t : Ty) (n : ByteArray) : tyOf (l ++ [t]) n = (tyOf l n).or (if lowS t.name = lowS n then some t else none) := by
 unfold tyOf
 rw [List.find?_append]
 by_cases h : lowS t.name = lowS n
 ·rw [if_pos h, List.find?_cons_of_pos (by simpa using h)]
 ·rw [if_neg h, List.find?_cons_of_neg (by simpa using h), List.find?_nil]
theorem clOf_snoc (l : List Cl) (t : Cl) (n : ByteArray) : clOf (l ++ [t]) n = (clOf l n).or (if lowS t.name = lowS n then some t else none) := by
 unfold clOf
 rw [List.find?_append]
 by_cases h : lowS t.name = lowS n
 ·rw [if_pos h, List.find?_cons_of_pos (by simpa using h)]
 ·rw [if_neg h, List.find?_cons_of_neg (by simpa using h), List.find?_nil]
def typedB (ts : List Ty) (ns : List ByteArray) : Bool := ns.all fun n => (tyOf ts n).isSome
def errT (ts : List Ty) (j : Nat) : Int :=
 if nameB (tyAt ts j).name = false then 5 else if (tyOf (ts.take j) (tyAt ts j).name).isSome = true then 7 else if (tyAt ts j).syn < 1 ∨ 5 < (tyAt ts j).syn then 8 else 0
def errC (ts : List Ty) (cs : List Cl) (k : Nat) : Int :=
 if nameB (clAt cs k).name = false then 5
 else if (clOf (cs.take k) (clAt cs k).name).isSome = true then 7
 else if (clAt cs k).super.size ≠ 0 ∧ (clOf (cs.take k) (clAt cs k).super).isSome = false then 6
 else if 64 < (clAt cs k).must.length ∨ 64 < (clAt cs k).may.length then 3
 else if typedB ts (clAt cs k).must = false ∨ typedB ts (clAt cs k).may = false then 6 else 0
def classN : ByteArray := ⟨#[99, 108, 97, 115, 115]⟩
def chkS (ts : List Ty) (cs : List Cl) : Int :=
 if 64 < ts.length ∨ 32 < cs.length then 3
 else if firstE (errT ts) ts.length ≠ 0 then firstE (errT ts) ts.length
 else if firstE (errC ts cs) cs.length ≠ 0 then firstE (errC ts cs) cs.length
 else match tyOf ts classN with
  | none => 6
  | some t => if t.syn = 1 then 0 else 8
def soundT (ts : List Ty) (cs : List Cl) : List Ty := if chkS ts cs = 0 then ts else []
def soundC (ts : List Ty) (cs : List Cl) : List Cl := if chkS ts cs = 0 then cs else []
def lineG (l : List Cl) : Nat → ByteArray → List Cl
 | 0, _ => []
 | k + 1, n => match clOf l n with
  | none => []
  | some c => c :: lineG l k c.super
def lineS (l : List Cl) (n : ByteArray) : List Cl := lineG l (l.length + 1) n
def mustS (l : List Cl) (n : ByteArray) : List ByteArray := sortU ((lineS l n).flatMap fun c => c.must.map lowS)
def mayS (l : List Cl) (n : ByteArray) : List ByteArray := sortU ((lineS l n).flatMap fun c => (c.must ++ c.may).map lowS)
/-! ### lists of records of k cells -/
theorem flat_len {α β : Type} (f : α → List β) (k : Nat) (hf : ∀ x, (f x).length = k) : ∀ l : List α, (l.flatMap f).length = l.length * k
 | [] => by simp
 | x :: l => by rw [List.flatMap_cons, List.length_append, hf, flat_len f k hf l, List.length_cons, Nat.succ_mul]; omega
theorem flat_at {α β : Type} (f : α → List β) (k : Nat) (hf : ∀ x, (f x).length = k) (d : α) : ∀ (l : List α) (j i : Nat), j < l.length → i < k → (l.flatMap f)[j * k + i]? = (f (l.getD j d))[i]?
 | [], j, i, h, _ => absurd h (Nat.not_lt_zero _)
 | x :: l, 0, i, _, hi => by
  rw [List.flatMap_cons, List.getElem?_append_left (by rw [hf]; omega), Nat.zero_mul, Nat.zero_add]; rfl
 | x :: l, j + 1, i, h, hi => by
  rw [List.flatMap_cons, List.getElem?_append_right (by rw [hf, Nat.succ_mul]; omega), hf, show (j + 1) * k + i - k = j * k + i by rw [Nat.succ_mul]; omega]
  exact flat_at f k hf d l j i (by simpa using h) hi
/-! ### classes -/
structure Cv where
 cl : Cl
 hm : Value
 hy : Value
instance : Inhabited Cv := ⟨⟨default, .slice none 0 0, .slice none 0 0⟩⟩
def cvC (c : Cv) : List Value := [.string c.cl.name, .string c.cl.super, c.hm, c.hy]
def cvV (c : Cv) : Value := .agg #[.string c.cl.name, .string c.cl.super, c.hm, c.hy]
def CvOk (w : World) (c : Cv) : Prop := Hdr w c.hm c.cl.must ∧ Hdr w c.hy c.cl.may
theorem CvOk.below {w w' : World} {c : Cv} (h : CvOk w c) (hb : Below w.heap.size w w') : CvOk w' c := ⟨h.1.below hb, h.2.below hb⟩
def ccells (l : List Cv) : List Value := l.flatMap cvC
def ccls (l : List Cv) : List Cl := l.map (·.cl)
theorem ccells_snoc (l : List Cv) (c : Cv) : ccells (l ++ [c]) = ccells l ++ cvC c := by simp [ccells]
theorem ccls_snoc (l : List Cv) (c : Cv) : ccls (l ++ [c]) = ccls l ++ [c.cl] := by simp [ccls]
theorem ccls_len (l : List Cv) : (ccls l).length = l.length := by simp [ccls]
theorem ccells_one {w : World} {l : List Cv} (h : ∀ c ∈ l, CvOk w c) : ∀ u ∈ ccells l, u.oneCell' = true := by
 intro u hu
 obtain ⟨c, hc, hu⟩ := List.mem_flatMap.1 hu
 simp only [cvC, List.mem_cons, List.not_mem_nil, or_false] at hu
 rcases hu with rfl | rfl | rfl | rfl
 ·rfl
 ·rfl
 ·exact (h c hc).1.one
 ·exact (h c hc).2.one
theorem info_class : (Tryz.prog.info? 106).map (fun i => (i.zero, i.size, i.bytes)) = some (some (.agg #[.string ⟨#[]⟩, .string ⟨#[]⟩, .slice none 0 0, .slice none 0 0]), 4, 80) := by kernel_rfl
theorem cells_four_new (w : World) (x y z u : Value) (t : TypeId) : ∀ j v, [x, y, z, u][j]? = some v → (w.alloc (.cells #[x, y, z, u] t)).cell? ((⟨w.heap.size, 0, none⟩ : Addr).add j) = some v := by
 intro j v hj
 have h : (w.alloc (.cells #[x, y, z, u] t)).heap[w.heap.size]? = some (.cells #[x, y, z, u] t (0, 0)) := heap_alloc_new w _
 rw [show (⟨w.heap.size, 0, none⟩ : Addr).add j = ⟨w.heap.size, j, none⟩ by rw [Go.WideShapes.add_plain, Nat.zero_add], Lib.cell_of_heap h]
 match j, hj with
 | 0, hj => simpa using hj
 | 1, hj => simpa using hj
 | 2, hj => simpa using hj
 | 3, hj => simpa using hj
 | j + 4, hj => simp at hj
theorem cells_three_new (w : World) (x y z : Value) (t : TypeId) : ∀ j v, [x, y, z][j]? = some v → (w.alloc (.cells #[x, y, z] t)).cell? ((⟨w.heap.size, 0, none⟩ : Addr).add j) = some v := by
 intro j v hj
 have h : (w.alloc (.cells #[x, y, z] t)).heap[w.heap.size]? = some (.cells #[x, y, z] t (0, 0)) := heap_alloc_new w _
 rw [show (⟨w.heap.size, 0, none⟩ : Addr).add j = ⟨w.heap.size, j, none⟩ by rw [Go.WideShapes.add_plain, Nat.zero_add], Lib.cell_of_heap h]
 match j, hj with
 | 0, hj => simpa using hj
 | 1, hj => simpa using hj
 | 2, hj => simpa using hj
 | j + 3, hj => simp at hj
theorem push_class {ops : Array Oper} {rest : List Oper} {o : Oper} {a : Act} {Q : Exit → Act → World → Prop} (wr : World) {base : Nat} {v : Value} {n : Nat} {xs : List Value} (hown : wr.ownsRow base 106 4 v n xs) (s x : Operand)
  (c : Cv) {w0 : World} (hc : CvOk w0 c) (hgd : o.guard = none)
  (ho : o.op = .call { callee := .builtin .append, args := #[s, x], argTypes := #[23, 23] })
  (hs : a.eval s = v) (hx : a.eval x = .slice (some ⟨wr.heap.size, 0, none⟩) 1 1) (hn : n + 1 ≤ 1000000000) (hbase : base ≤ wr.heap.size)
  (h : ∀ v' w', w'.ownsRow base 106 4 v' (n + 1) (xs ++ cvC c) → (wr.alloc (.cells #[.string c.cl.name, .string c.cl.super, c.hm, c.hy] 106)).grownBy w' v.ownBlock → (v'.ownBlock = v.ownBlock ∨ ∃ g, v'.ownBlock = some g ∧ wr.heap.size < g) → wpList Tryz.prog ops Q rest (a.put o.dst v') w') :
  wpList Tryz.prog ops Q (o :: rest) a (wr.alloc (.cells #[.string c.cl.name, .string c.cl.super, c.hm, c.hy] 106)) := by
 obtain ⟨i0, hi, hz0, hz1, hz2⟩ := info_parts info_class
 refine wpList_append_own_at _ hgd s x 23 ho base 106 i0 (.agg #[.string ⟨#[]⟩, .string ⟨#[]⟩, .slice none 0 0, .slice none 0 0]) 4 80 Tryz.underlying23 hi hz0 hz1 hz2 rfl (by decide) v n xs hs (hown.alloc _) ⟨wr.heap.size, 0, none⟩ 1 1 (cvC c) hx rfl
  (cells_four_new _ _ _ _ _ _) (by
   have := ccells_one (w := w0) (l := [c]) (fun d hd => by rw [List.mem_singleton.1 hd]; exact hc)
   simpa [ccells] using this) (by unfold maxLen; omega) (by omega) (by simp; omega) ?_
 intro v' w' h1 h2 _ h4
 refine h v' w' h1 h2 ?_
 rcases h4 with h4 | h4
 ·exact .inl h4
 ·exact .inr ⟨_, h4, by simp⟩
/-! ### types -/
def tyC (t : Ty) : List Value := [.string t.name, .int .i64 t.syn, .bool t.single]
def tyV (t : Ty) : Value := .agg #[.string t.name, .int .i64 t.syn, .bool t.single]
def ycells (l : List Ty) : List Value := l.flatMap tyC
end Go.Proofs.YtonfkhkalodldabGreatDoor
end

section
set_option maxRecDepth 100000
namespace Go.Proofs.YtonfkhkalodldabGreatDoor
open Go.RowKit Go.PlainAid Go.Maps
def rawE (v : Value) : Option (DataW Value × List MemPlace) := some (.held v, [])
def RawMap (w : World) (b n : Nat) (f : ByteArray → Option Value) : Prop :=
 ∃ D, w.ownsMap Tryz.prog 9 rawE b n D ∧ ∀ k, Maps.has D (klit k) = (f k).isSome ∧ ∀ v, f k = some v → ∀ z, D.atKey (klit k) z = .held v
theorem raw_made (w : World) : RawMap (w.alloc (.map #[] 0)) w.heap.size 0 fun _ => none :=
 ⟨.map [], World.ownsMap_made w _ _ _, fun k => ⟨rfl, fun v h => by cases h⟩⟩
theorem RawMap.lt {w : World} {b n : Nat} {f : ByteArray → Option Value} (h : RawMap w b n f) : b < w.heap.size := by
 obtain ⟨D, h, _⟩ := h; exact h.lt
theorem RawMap.kept {w w' : World} {b n : Nat} {f : ByteArray → Option Value} {row : Option Nat} (h : RawMap w b n f) (hg : w.grownBy w' row) (hne : some b ≠ row) : RawMap w' b n f := by
 obtain ⟨D, h, hf⟩ := h; exact ⟨D, h.kept hg hne, hf⟩
theorem RawMap.below {w w' : World} {b n : Nat} {f : ByteArray → Option Value} {B : Nat} (h : RawMap w b n f) (hb : Below B w w') (hB : b < B) : RawMap w' b n f := by
 obtain ⟨D, ⟨es, clock, he, h1, h2⟩, hf⟩ := h
 exact ⟨D, ⟨es, clock, by rw [hb.block b hB]; exact he, h1, h2⟩, hf⟩
theorem RawMap.mono {w : World} {b n m : Nat} {f : ByteArray → Option Value} (h : RawMap w b n f) (hm : n ≤ m) : RawMap w b m f := by
 obtain ⟨D, h, hf⟩ := h; exact ⟨D, h.mono hm, hf⟩
def MapVal (w : World) (mv : Option Nat) (f : ByteArray → Option Value) : Prop := (mv = none ∧ ∀ k, f k = none) ∨ ∃ b n, mv = some b ∧ RawMap w b n f
theorem MapVal.below {w w' : World} {mv : Option Nat} {f : ByteArray → Option Value} (h : MapVal w mv f) (hb : Below w.heap.size w w') : MapVal w' mv f := by
 rcases h with h | ⟨b, n, e, h⟩
 ·exact .inl h
 ·exact .inr ⟨b, n, e, h.below hb h.lt⟩
theorem MapVal.kept {w w' : World} {mv : Option Nat} {f : ByteArray → Option Value} {row : Option Nat} (h : MapVal w mv f) (hg : w.grownBy w' row) (hne : ∀ b, mv = some b → some b ≠ row) : MapVal w' mv f := by
 rcases h with h | ⟨b, n, e, h⟩
 ·exact .inl h
 ·exact .inr ⟨b, n, e, h.kept hg (hne b e)⟩
theorem MapVal.look_ok {w : World} {mv : Option Nat} {f : ByteArray → Option Value} {t e : TypeId} {z : Value} (h : MapVal w mv f) (ht : Tryz.prog.underlying t = some (.map 9 e)) (hz : (zeroValue e).run Tryz.prog w = .ok z w) (k : ByteArray) (hk : k.size ≤ maxLen) :
  (Instr.lookup t (.map mv) (.string k) true).run Tryz.prog w = .ok (.tuple #[(f k).getD z, .bool (f k).isSome]) w := by
 rcases h with ⟨rfl, hn⟩ | ⟨b, n, rfl, D, hm, hf⟩
 ·rw [Maps.look_nil true (string_keyed Tryz.underlying9) ht hz (klit_key k hk), hn k]; rfl
 ·obtain ⟨v, ps, hrun, hv⟩ := hm.look_ok (string_keyed Tryz.underlying9) ht hz (zd := .held z) rfl (klit_key k hk)
  rw [hrun, (hf k).1]
  have hv2 : DataW.held v = D.atKey (klit k) (.held z) := by
   unfold rawE at hv
   simp only [Option.some.injEq, Prod.mk.injEq] at hv
   exact hv.1
  cases hfk : f k with
  | none =>
   have h0 := (hf k).1
   rw [hfk] at h0
   rw [atKey_of_not_has h0] at hv2
   injection hv2 with hv2
   rw [hv2]; rfl
  | some u =>
   rw [(hf k).2 u hfk] at hv2
   injection hv2 with hv2
   rw [hv2]; rfl
theorem MapVal.look {w : World} {mv : Option Nat} {f : ByteArray → Option Value} {t e : TypeId} {z : Value} (h : MapVal w mv f) (ht : Tryz.prog.underlying t = some (.map 9 e)) (hz : (zeroValue e).run Tryz.prog w = .ok z w) (k : ByteArray) (hk : k.size ≤ maxLen) :
  (Instr.lookup t (.map mv) (.string k) false).run Tryz.prog w = .ok ((f k).getD z) w := by
 rcases h with ⟨rfl, hn⟩ | ⟨b, n, rfl, D, hm, hf⟩
 ·rw [Maps.look_nil false (string_keyed Tryz.underlying9) ht hz (klit_key k hk), hn k]; rfl
 ·obtain ⟨v, ps, hrun, hv⟩ := hm.lookup (string_keyed Tryz.underlying9) ht hz (zd := .held z) rfl (klit_key k hk)
  rw [hrun]
  have hv2 : DataW.held v = D.atKey (klit k) (.held z) := by
   unfold rawE at hv
   simp only [Option.some.injEq, Prod.mk.injEq] at hv
   exact hv.1
  cases hfk : f k with
  | none =>
   have h0 := (hf k).1
   rw [hfk] at h0
   rw [atKey_of_not_has h0] at hv2
   injection hv2 with hv2
   rw [hv2]; rfl
  | some u =>
   rw [(hf k).2 u hfk] at hv2
   injection hv2 with hv2
   rw [hv2]; rfl
def setO (f : ByteArray → Option Value) (k : ByteArray) (v : Value) (j : ByteArray) : Option Value := if j = k then some v else f j
theorem RawMap.store {w : World} {b n : Nat} {f : ByteArray → Option Value} {t e : TypeId} (h : RawMap w b n f) (ht : Tryz.prog.underlying t = some (.map 9 e)) (hn : n < maxLen) (k : ByteArray) (hk : k.size ≤ maxLen) (v : Value) :
  ∃ w', (Instr.mapUpdate t (.map (some b)) (.string k) v).run Tryz.prog w = .ok () w' ∧ RawMap w' b (n + 1) (setO f k v) ∧ w.grownBy w' (some b) := by
 obtain ⟨D, hm, hf⟩ := h
 obtain ⟨w', hrun, hm', hg⟩ := hm.update (string_keyed Tryz.underlying9) ht hn (klit_key k hk) (val := v) (d := .held v) (ps := []) rfl
 refine ⟨w', hrun, ⟨_, hm', fun j => ?_⟩, hg⟩
 unfold setO
 by_cases e : j = k
 ·subst e
  rw [if_pos rfl]
  refine ⟨has_put_same hm.isMap (by unfold klit; trivial) _, fun u hu z => ?_⟩
  obtain rfl := Option.some.inj hu
  exact atKey_put_same hm.isMap (by unfold klit; trivial) _ _
 ·rw [if_neg e]
  have hne : klit j ≠ klit k := fun h => e (klit_one h)
  exact ⟨by rw [has_put_other hne]; exact (hf j).1, fun u hu z => by rw [atKey_put_other hne]; exact (hf j).2 u hu z⟩
def zeroTy : Ty := ⟨⟨#[]⟩, 0, false⟩
def zeroCv : Cv := ⟨⟨⟨#[]⟩, ⟨#[]⟩, [], []⟩, .slice none 0 0, .slice none 0 0⟩
def zeroTyV : Value := .agg #[.string ⟨#[]⟩, .int .i64 0, .bool false]
def zeroClV : Value := .agg #[.string ⟨#[]⟩, .string ⟨#[]⟩, .slice none 0 0, .slice none 0 0]
def TMap (w : World) (mv : Option Nat) (ts : List Ty) : Prop := ∃ f, MapVal w mv f ∧ ∀ n, f (lowS n) = (tyOf ts n).map tyV
def CMap (w0 w : World) (mv : Option Nat) (cs : List Cl) : Prop :=
 ∃ f, MapVal w mv f ∧ ∀ n, (clOf cs n = none → f (lowS n) = none) ∧ ∀ c, clOf cs n = some c → ∃ d : Cv, d.cl = c ∧ CvOk w0 d ∧ f (lowS n) = some (cvV d)
theorem TMap.below {w w' : World} {mv : Option Nat} {ts : List Ty} (h : TMap w mv ts) (hb : Below w.heap.size w w') : TMap w' mv ts := by
 obtain ⟨f, h, k⟩ := h; exact ⟨f, h.below hb, k⟩
theorem CMap.below {w0 w w' : World} {mv : Option Nat} {cs : List Cl} (h : CMap w0 w mv cs) (hb : Below w.heap.size w w') : CMap w0 w' mv cs := by
 obtain ⟨f, h, k⟩ := h; exact ⟨f, h.below hb, k⟩
theorem CMap.base {w0 w1 w : World} {mv : Option Nat} {cs : List Cl} (h : CMap w0 w mv cs) (hb : Below w0.heap.size w0 w1) : CMap w1 w mv cs := by
 obtain ⟨f, h, k⟩ := h
 refine ⟨f, h, fun n => ⟨(k n).1, fun c hc => ?_⟩⟩
 obtain ⟨d, e, ho, hf⟩ := (k n).2 c hc
 exact ⟨d, e, ho.below hb, hf⟩
theorem TMap.kept {w w' : World} {mv : Option Nat} {ts : List Ty} {row : Option Nat} (h : TMap w mv ts) (hg : w.grownBy w' row) (hne : ∀ b, mv = some b → some b ≠ row) : TMap w' mv ts := by
 obtain ⟨f, h, k⟩ := h; exact ⟨f, h.kept hg hne, k⟩
theorem CMap.kept {w0 w w' : World} {mv : Option Nat} {cs : List Cl} {row : Option Nat} (h : CMap w0 w mv cs) (hg : w.grownBy w' row) (hne : ∀ b, mv = some b → some b ≠ row) : CMap w0 w' mv cs := by
 obtain ⟨f, h, k⟩ := h; exact ⟨f, h.kept hg hne, k⟩
theorem tmap_nil (w : World) : TMap w none [] := ⟨fun _ => none, .inl ⟨rfl, fun _ => rfl⟩, fun _ => rfl⟩
theorem cmap_nil (w0 w : World) : CMap w0 w none [] := ⟨fun _ => none, .inl ⟨rfl, fun _ => rfl⟩, fun _ => ⟨fun _ => rfl, fun c hc => by cases hc⟩⟩
theorem TMap.look {w : World} {mv : Option Nat} {ts : List Ty} (h : TMap w mv ts) (n : ByteArray) (hn : n.size ≤ 1000000000) :
  (Instr.lookup 85 (.map mv) (.string (lowS n)) true).run Tryz.prog w = .ok (.tuple #[((tyOf ts n).map tyV).getD zeroTyV, .bool (tyOf ts n).isSome]) w := by
 obtain ⟨f, h, k⟩ := h
 rw [h.look_ok Tryz.underlying85 (Tryz.zeroValue104 _) (lowS n) (by rw [lowS_size]; unfold maxLen; omega), k n]
 cases tyOf ts n <;> rfl
theorem CMap.look {w0 w : World} {mv : Option Nat} {cs : List Cl} (h : CMap w0 w mv cs) (n : ByteArray) (hn : n.size ≤ 1000000000) :
  ∃ v, (Instr.lookup 86 (.map mv) (.string (lowS n)) true).run Tryz.prog w = .ok (.tuple #[v, .bool (clOf cs n).isSome]) w ∧ (clOf cs n = none → v = zeroClV) ∧ ∀ c, clOf cs n = some c → ∃ d : Cv, d.cl = c ∧ CvOk w0 d ∧ v = cvV d := by
 obtain ⟨f, h, k⟩ := h
 refine ⟨(f (lowS n)).getD zeroClV, ?_, fun hc => by rw [(k n).1 hc]; rfl, fun c hc => ?_⟩
 ·rw [h.look_ok Tryz.underlying86 (Tryz.zeroValue106 _) (lowS n) (by rw [lowS_size]; unfold maxLen; omega)]
  cases hc : clOf cs n with
  | none => rw [(k n).1 hc]; rfl
  | some c =>
   obtain ⟨d, e, ho, hf⟩ := (k n).2 c hc
   rw [hf]; rfl
 ·obtain ⟨d, e, ho, hf⟩ := (k n).2 c hc
  exact ⟨d, e, ho, by rw [hf]; rfl⟩
def TOpen (w : World) (b n : Nat) (ts : List Ty) : Prop := ∃ f, RawMap w b n f ∧ ∀ m, f (lowS m) = (tyOf ts m).map tyV
def COpen (w0 w : World) (b n : Nat) (cs : List Cl) : Prop :=
 ∃ f, RawMap w b n f ∧ ∀ n, (clOf cs n = none → f (lowS n) = none) ∧ ∀ c, clOf cs n = some c → ∃ d : Cv, d.cl = c ∧ CvOk w0 d ∧ f (lowS n) = some (cvV d)
theorem TOpen.map {w : World} {b n : Nat} {ts : List Ty} (h : TOpen w b n ts) : TMap w (some b) ts := by
 obtain ⟨f, h, k⟩ := h; exact ⟨f, .inr ⟨b, n, rfl, h⟩, k⟩
theorem COpen.map {w0 w : World} {b n : Nat} {cs : List Cl} (h : COpen w0 w b n cs) : CMap w0 w (some b) cs := by
 obtain ⟨f, h, k⟩ := h; exact ⟨f, .inr ⟨b, n, rfl, h⟩, k⟩
theorem TOpen.lt {w : World} {b n : Nat} {ts : List Ty} (h : TOpen w b n ts) : b < w.heap.size := by obtain ⟨f, h, _⟩ := h; exact h.lt
theorem COpen.lt {w0 w : World} {b n : Nat} {ts : List Cl} (h : COpen w0 w b n ts) : b < w.heap.size := by obtain ⟨f, h, _⟩ := h; exact h.lt
theorem TOpen.below {w w' : World} {b n : Nat} {ts : List Ty} {B : Nat} (h : TOpen w b n ts) (hb : Below B w w') (hB : b < B) : TOpen w' b n ts := by
 obtain ⟨f, h, k⟩ := h; exact ⟨f, h.below hb hB, k⟩
theorem COpen.below {w0 w w' : World} {b n : Nat} {cs : List Cl} {B : Nat} (h : COpen w0 w b n cs) (hb : Below B w w') (hB : b < B) : COpen w0 w' b n cs := by
 obtain ⟨f, h, k⟩ := h; exact ⟨f, h.below hb hB, k⟩
theorem TOpen.kept {w w' : World} {b n : Nat} {ts : List Ty} {row : Option Nat} (h : TOpen w b n ts) (hg : w.grownBy w' row) (hne : some b ≠ row) : TOpen w' b n ts := by
 obtain ⟨f, h, k⟩ := h; exact ⟨f, h.kept hg hne, k⟩
theorem COpen.kept {w0 w w' : World} {b n : Nat} {cs : List Cl} {row : Option Nat} (h : COpen w0 w b n cs) (hg : w.grownBy w' row) (hne : some b ≠ row) : COpen w0 w' b n cs := by
 obtain ⟨f, h, k⟩ := h; exact ⟨f, h.kept hg hne, k⟩
theorem topen_made (w : World) : TOpen (w.alloc (.map #[] 0)) w.heap.size 0 [] := ⟨_, raw_made w, fun m => rfl⟩
theorem copen_made (w0 w : World) : COpen w0 (w.alloc (.map #[] 0)) w.heap.size 0 [] := ⟨_, raw_made w, fun m => ⟨fun _ => rfl, fun c hc => by cases hc⟩⟩
theorem TOpen.store {w : World} {b n : Nat} {ts : List Ty} (h : TOpen w b n ts) (t : Ty) (hn : n < 1100000) (hz : t.name.size ≤ 1000000000) (hT : tyOf ts t.name = none) :
  ∃ w', (Instr.mapUpdate 85 (.map (some b)) (.string (lowS t.name)) (tyV t)).run Tryz.prog w = .ok () w' ∧ TOpen w' b (n + 1) (ts ++ [t]) ∧ w.grownBy w' (some b) := by
 obtain ⟨f, h, k⟩ := h
 obtain ⟨w', hrun, hm, hg⟩ := h.store Tryz.underlying85 (by unfold maxLen; omega) (lowS t.name) (by rw [lowS_size]; unfold maxLen; omega) (tyV t)
 refine ⟨w', hrun, ⟨_, hm, fun m => ?_⟩, hg⟩
 rw [tyOf_snoc]
 unfold setO
 by_cases e : lowS m = lowS t.name
 ·have : tyOf ts m = none := by rw [← tyOf_low, e, tyOf_low]; exact hT
  rw [if_pos e, this, if_pos e.symm]; rfl
 ·rw [if_neg e, k m, if_neg (fun h => e h.symm), Option.or_none]
theorem COpen.store {w0 w : World} {b n : Nat} {cs : List Cl} (h : COpen w0 w b n cs) (d : Cv) (hd : CvOk w0 d) (hn : n < 1100000) (hz : d.cl.name.size ≤ 1000000000) (hT : clOf cs d.cl.name = none) :
  ∃ w', (Instr.mapUpdate 86 (.map (some b)) (.string (lowS d.cl.name)) (cvV d)).run Tryz.prog w = .ok () w' ∧ COpen w0 w' b (n + 1) (cs ++ [d.cl]) ∧ w.grownBy w' (some b) := by
 obtain ⟨f, h, k⟩ := h
 obtain ⟨w', hrun, hm, hg⟩ := h.store Tryz.underlying86 (by unfold maxLen; omega) (lowS d.cl.name) (by rw [lowS_size]; unfold maxLen; omega) (cvV d)
 refine ⟨w', hrun, ⟨_, hm, fun m => ?_⟩, hg⟩
 rw [clOf_snoc]
 unfold setO
 by_cases e : lowS m = lowS d.cl.name
 ·have : clOf cs m = none := by rw [← clOf_low, e, clOf_low]; exact hT
  rw [if_pos e, this, if_pos e.symm]
  refine ⟨(fun h => by cases h), fun c hc => ⟨d, ?_, hd, rfl⟩⟩
  simpa using hc
 ·rw [if_neg e, if_neg (fun h => e h.symm), Option.or_none]
  exact k m
end Go.Proofs.YtonfkhkalodldabGreatDoor
end

section
set_option maxRecDepth 100000
namespace Go.Proofs.YtonfkhkalodldabGreatDoor
open Go.RowKit Go.PlainAid
def SoundC (cs : List Cl) : Prop := ∀ k, k < cs.length → nameB (clAt cs k).name = true ∧ clOf (cs.take k) (clAt cs k).name = none ∧ ((clAt cs k).super.size ≠ 0 → (clOf (cs.take k) (clAt cs k).super).isSome = true)
theorem soundC_of {ts : List Ty} {cs : List Cl} (h : ∀ k, k < cs.length → errC ts cs k = 0) : SoundC cs := by
 intro k hk
 have h := h k hk
 unfold errC at h
 split at h
 ·cases h
 ·rename_i h1
  split at h
  ·cases h
  ·rename_i h2
   split at h
   ·cases h
   ·rename_i h3
    refine ⟨by simpa using h1, by simpa using h2, fun h0 => ?_⟩
    cases e : (clOf (cs.take k) (clAt cs k).super).isSome
    ·exact absurd ⟨h0, e⟩ h3
    ·rfl
theorem soundC_nil : SoundC [] := fun k hk => absurd hk (Nat.not_lt_zero _)
theorem firstE_none {f : Nat → Int} : ∀ {n : Nat}, firstE f n = 0 → ∀ j, j < n → f j = 0
 | 0, _, j, hj => absurd hj (Nat.not_lt_zero _)
 | n + 1, h, j, hj => by
  by_cases hz : ∀ i, i < n → f i = 0
  ·rcases Nat.lt_or_ge j n with k | k
   ·exact hz j k
   ·have e : j = n := by omega
    subst e
    by_cases h0 : f j = 0
    ·exact h0
    ·rw [firstE_hit hz h0 (Nat.lt_succ_self j)] at h; exact absurd h h0
  ·have hx : ∃ m, m < n ∧ f m ≠ 0 ∧ ∀ i, i < m → f i = 0 := by
    have : ∀ m, (∃ i, i < m ∧ f i ≠ 0) → ∃ i, i < m ∧ f i ≠ 0 ∧ ∀ j, j < i → f j = 0 := by
     intro m
     induction m with
     | zero => rintro ⟨i, hi, _⟩; exact absurd hi (Nat.not_lt_zero _)
     | succ m ih =>
      rintro ⟨i, hi, hf⟩
      by_cases hm : ∃ i, i < m ∧ f i ≠ 0
      ·obtain ⟨i, a, b, c⟩ := ih hm; exact ⟨i, by omega, b, c⟩
      ·have hi2 : i = m := by
        rcases Nat.lt_or_ge i m with k | k
        ·exact absurd ⟨i, k, hf⟩ hm
        ·omega
       subst hi2
       exact ⟨i, hi, hf, fun j hj => Classical.byContradiction fun h => hm ⟨j, hj, h⟩⟩
    refine this n ?_
    exact Classical.byContradiction fun hc => hz fun i hi => Classical.byContradiction fun hf => hc ⟨i, hi, hf⟩
   obtain ⟨m, hm, hf, hl⟩ := hx
   rw [firstE_hit hl hf (by omega)] at h
   exact absurd h hf
theorem sound_soundC (ts : List Ty) (cs : List Cl) : SoundC (soundC ts cs) := by
 unfold soundC
 split
 ·rename_i h
  unfold chkS at h
  split at h
  ·cases h
  ·split at h
   ·exact absurd h ‹_›
   ·split at h
    ·exact absurd h ‹_›
    ·rename_i h3
     exact soundC_of (firstE_none (Classical.not_not.1 h3))
 ·exact soundC_nil
theorem soundC_len (ts : List Ty) (cs : List Cl) : (soundC ts cs).length ≤ 32 := by
 unfold soundC
 split
 ·rename_i h
  unfold chkS at h
  split at h
  ·cases h
  ·omega
 ·exact Nat.zero_le _
theorem clOf_mem {cs : List Cl} {n : ByteArray} {c : Cl} (h : clOf cs n = some c) : c ∈ cs := List.mem_of_find?_eq_some h
theorem clOf_name {cs : List Cl} {n : ByteArray} {c : Cl} (h : clOf cs n = some c) : lowS c.name = lowS n := by
 have := List.find?_some h; simpa using this
def rk : List Cl → ByteArray → Nat
 | [], _ => 0
 | c :: l, n => if lowS c.name = lowS n then 1 else if rk l n = 0 then 0 else rk l n + 1
theorem rk_le : ∀ (l : List Cl) (n : ByteArray), rk l n ≤ l.length
 | [], _ => Nat.le_refl _
 | c :: l, n => by
  have := rk_le l n
  unfold rk
  split
  ·simp
  ·split
   ·simp
   ·simp; omega
theorem clOf_cons (c : Cl) (l : List Cl) (n : ByteArray) : clOf (c :: l) n = if lowS c.name = lowS n then some c else clOf l n := by
 unfold clOf
 by_cases h : lowS c.name = lowS n
 ·rw [if_pos h, List.find?_cons_of_pos (by simpa using h)]
 ·rw [if_neg h, List.find?_cons_of_neg (by simpa using h)]
theorem rk_zero : ∀ (l : List Cl) (n : ByteArray), rk l n = 0 ↔ clOf l n = none
 | [], _ => ⟨fun _ => rfl, fun _ => rfl⟩
 | c :: l, n => by
  have := rk_zero l n
  rw [clOf_cons]
  unfold rk
  by_cases h : lowS c.name = lowS n
  ·rw [if_pos h, if_pos h]; simp
  ·rw [if_neg h, if_neg h]
   by_cases h2 : rk l n = 0
   ·rw [if_pos h2]; simp [this.1 h2]
   ·rw [if_neg h2]
    constructor
    ·intro h3; omega
    ·intro h3; exact absurd (this.2 h3) h2
theorem rk_at : ∀ (l : List Cl) (n : ByteArray) (c : Cl), clOf l n = some c → clAt l (rk l n - 1) = c ∧ rk l n - 1 < l.length ∧ 0 < rk l n
 | [], n, c, h => by cases h
 | d :: l, n, c, h => by
  rw [clOf_cons] at h
  unfold rk
  by_cases e : lowS d.name = lowS n
  ·rw [if_pos e] at h ⊢
   exact ⟨Option.some.inj h, by simp, by omega⟩
  ·rw [if_neg e] at h ⊢
   obtain ⟨h1, h2, h3⟩ := rk_at l n c h
   rw [if_neg (by omega)]
   refine ⟨?_, by simp; omega, by omega⟩
   rw [← h1]
   unfold clAt
   rw [show rk l n + 1 - 1 = (rk l n - 1) + 1 by omega]; rfl
theorem rk_take : ∀ (l : List Cl) (n : ByteArray) (k : Nat), clOf (l.take k) n ≠ none → rk l n ≤ k
 | [], n, k, h => Nat.zero_le _
 | d :: l, n, 0, h => absurd rfl h
 | d :: l, n, k + 1, h => by
  rw [List.take_succ_cons, clOf_cons] at h
  unfold rk
  by_cases e : lowS d.name = lowS n
  ·rw [if_pos e]; omega
  ·rw [if_neg e] at h ⊢
   have := rk_take l n k h
   split <;> omega
theorem nameB_ne {s : ByteArray} (h : nameB s = true) : s.size ≠ 0 := by
 intro e
 unfold nameB at h
 rw [e] at h
 simp at h
theorem clOf_empty {cs : List Cl} (hs : SoundC cs) {n : ByteArray} (hn : n.size = 0) : clOf cs n = none := by
 cases h : clOf cs n with
 | none => rfl
 | some c =>
  obtain ⟨j, hj, rfl⟩ := mem_cl (clOf_mem h)
  have h1 := congrArg ByteArray.size (clOf_name h)
  rw [lowS_size, lowS_size, hn] at h1
  exact absurd h1 (nameB_ne (hs j hj).1)
theorem rk_super {cs : List Cl} (hs : SoundC cs) {n : ByteArray} {c : Cl} (h : clOf cs n = some c) : rk cs c.super < rk cs n := by
 obtain ⟨h1, h2, h3⟩ := rk_at cs n c h
 have hk := hs _ h2
 rw [h1] at hk
 by_cases h0 : c.super.size = 0
 ·rw [(rk_zero cs c.super).2 (clOf_empty hs h0)]; exact h3
 ·have := rk_take cs c.super (rk cs n - 1) (fun e => by have := hk.2.2 h0; rw [e] at this; cases this)
  omega
theorem lineG_enough {cs : List Cl} (hs : SoundC cs) : ∀ r n, rk cs n ≤ r → ∀ f g, r ≤ f → r ≤ g → lineG cs f n = lineG cs g n
 | 0, n, hr, f, g, _, _ => by
  have hz := (rk_zero cs n).1 (by omega)
  cases f <;> cases g <;> simp [lineG, hz]
 | r + 1, n, hr, f + 1, g + 1, hf, hg => by
  unfold lineG
  cases h : clOf cs n with
  | none => rfl
  | some c =>
   have := rk_super hs h
   simp only
   rw [lineG_enough hs r c.super (by omega) f g (by omega) (by omega)]
theorem lineS_step {cs : List Cl} (hs : SoundC cs) {n : ByteArray} {c : Cl} (h : clOf cs n = some c) : lineS cs n = c :: lineS cs c.super := by
 have h1 := rk_super hs h
 have h2 := rk_le cs n
 show lineG cs (cs.length + 1) n = c :: lineG cs (cs.length + 1) c.super
 rw [lineG_enough hs (rk cs c.super) c.super (Nat.le_refl _) (cs.length + 1) cs.length (by omega) (by omega)]
 show (match clOf cs n with | none => [] | some c => c :: lineG cs cs.length c.super) = _
 rw [h]
theorem lineS_none {cs : List Cl} {n : ByteArray} (h : clOf cs n = none) : lineS cs n = [] := by
 show lineG cs (cs.length + 1) n = []
 unfold lineG; rw [h]
theorem lineS_len {cs : List Cl} (hs : SoundC cs) : ∀ r n, rk cs n ≤ r → (lineS cs n).length ≤ r
 | r, n, hr => by
  cases h : clOf cs n with
  | none => rw [lineS_none h]; exact Nat.zero_le _
  | some c =>
   rw [lineS_step hs h, List.length_cons]
   have := rk_super hs h
   match r, hr with
   | 0, hr => omega
   | r + 1, hr => exact Nat.succ_le_succ (lineS_len hs r c.super (by omega))
theorem lineS_small {cs : List Cl} (hs : SoundC cs) (n : ByteArray) : (lineS cs n).length ≤ cs.length := lineS_len hs _ n (rk_le cs n)
theorem lineG_mem {cs : List Cl} : ∀ f n c, c ∈ lineG cs f n → c ∈ cs
 | 0, n, c, h => by cases h
 | f + 1, n, c, h => by
  unfold lineG at h
  cases e : clOf cs n with
  | none => rw [e] at h; cases h
  | some d =>
   rw [e] at h
   rcases List.mem_cons.1 h with k | k
   ·rw [k]; exact clOf_mem e
   ·exact lineG_mem f _ _ k
theorem lineS_mem {cs : List Cl} {n : ByteArray} {c : Cl} (h : c ∈ lineS cs n) : c ∈ cs := lineG_mem _ _ _ h
theorem mustS_eq (cs : List Cl) (n : ByteArray) : mustS cs n = sortU (((lineS cs n).flatMap fun c => c.must).map lowS) := by
 unfold mustS; rw [List.map_flatMap]
theorem sortU_ext {a b : List ByteArray} (h : ∀ x, x ∈ a ↔ x ∈ b) : sortU a = sortU b := asc_ext (sortU_asc a) (sortU_asc b) fun x => by rw [sortU_mem, sortU_mem, h]
theorem mayS_eq (cs : List Cl) (n : ByteArray) : mayS cs n = sortU ((mustS cs n ++ (lineS cs n).flatMap fun c => c.may).map lowS) := by
 unfold mayS
 refine sortU_ext fun x => ?_
 rw [mustS_eq, List.map_append, List.mem_append]
 simp only [List.mem_flatMap, List.mem_map, sortU_mem, List.mem_append]
 constructor
 ·rintro ⟨c, hc, s, hs | hs, rfl⟩
  ·exact .inl ⟨lowS s, ⟨s, ⟨c, hc, hs⟩, rfl⟩, lowS_low s⟩
  ·exact .inr ⟨s, ⟨c, hc, hs⟩, rfl⟩
 ·rintro (⟨t, ⟨s, ⟨c, hc, hs⟩, rfl⟩, rfl⟩ | ⟨s, ⟨c, hc, hs⟩, rfl⟩)
  ·exact ⟨c, hc, s, .inl hs, (lowS_low s).symm⟩
  ·exact ⟨c, hc, s, .inr hs, rfl⟩
def digS (l : List UInt8) : Bool := !l.isEmpty && l.all digB
theorem mag_all {l : List UInt8} (h : digS l = true) : Fair (Lib.parseMag l) := by
 cases l with
 | nil => cases h
 | cons c r =>
  unfold digS at h
  rw [Bool.and_eq_true] at h
  unfold Lib.parseMag
  rw [if_neg (by simp)]
  exact parse_digits _ _ h.2
theorem digS_atoi {l : List UInt8} (h : digS (stripL l) = true) : Fair (Lib.atoiAll l) := by
 cases l with
 | nil => cases h
 | cons c r =>
  by_cases hc : c = 45
  ·subst hc
   rw [strip_minus] at h
   rw [Lib.atoiAll_minus]
   exact signed_fair (mag_all h)
  ·rw [strip_plain c r hc] at h
   have hd : digB c = true := by
    unfold digS at h
    simp only [Bool.and_eq_true, List.all_cons] at h
    exact h.2.1
   have h2 : 48 ≤ c.toNat ∧ c.toNat ≤ 57 := by simpa [digB] using hd
   rw [Lib.atoiAll_plain c r (by omega) (by omega)]
   exact signless_fair (mag_all h)
def numS (s : ByteArray) : Option Int := if digS (stripL s.data.toList) then (match Lib.atoiAll s.data.toList with
 | .ok v => some v
 | _ => none) else none
def trueS : ByteArray := ⟨#[116, 114, 117, 101]⟩
def falseS : ByteArray := ⟨#[102, 97, 108, 115, 101]⟩
def truthS (s : ByteArray) : Option ByteArray := if lowS s = trueS then some ⟨#[84, 82, 85, 69]⟩ else if lowS s = falseS then some ⟨#[70, 65, 76, 83, 69]⟩ else none
def formS (x : Int) (v : ByteArray) : Option ByteArray :=
 if x = 1 then some (foldS v)
 else if x = 2 then some v
 else if x = 3 then (numS v).map fun n => ofL (Lib.itoa n)
 else if x = 4 then (if Nam.cleanE v = 0 then some (Nam.cleanV v) else none)
 else truthS v
def normS (x : Int) (v : ByteArray) : Option ByteArray := (formS x v).bind fun f => if cleanB v = true ∧ cleanB f = true then some f else none
set_option maxHeartbeats 4000000 in
theorem truth_s (s : ByteArray) (w : World) (hs : s.size ≤ 1000000000) :
  Calls Tryz.prog 133 #[.string s] w fun e w' => e = .returned (.tuple #[.string ((truthS s).getD ⟨#[]⟩), .bool (truthS s).isSome]) ∧ Below w.heap.size w w' := by
 have HE := Lib.hid (show truthS s = if lowS s = trueS then some ⟨#[84, 82, 85, 69]⟩ else if lowS s = falseS then some ⟨#[70, 65, 76, 83, 69]⟩ else none from rfl)
 obtain ⟨b1, h1⟩ : ∃ b, ((lowS s).toList == ([116, 114, 117, 101] : List UInt8)) = b := ⟨_, rfl⟩
 obtain ⟨b2, h2⟩ : ∃ b, ((lowS s).toList == ([102, 97, 108, 115, 101] : List UInt8)) = b := ⟨_, rfl⟩
 have e1 : (lowS s = trueS) ↔ b1 = true := by
  have h := str_eq (lowS s) trueS
  rw [show trueS.toList = ([116, 114, 117, 101] : List UInt8) by rw [Lib.toList_data]; rfl, h1] at h
  rw [h]; simp
 have e2 : (lowS s = falseS) ↔ b2 = true := by
  have h := str_eq (lowS s) falseS
  rw [show falseS.toList = ([102, 97, 108, 115, 101] : List UInt8) by rw [Lib.toList_data]; rfl, h2] at h
  rw [h]; simp
 have HE2 := Lib.hid (show truthS s = if b1 = true then some ⟨#[84, 82, 85, 69]⟩ else if b2 = true then some ⟨#[70, 65, 76, 83, 69]⟩ else none by rw [HE.out]; simp only [e1, e2])
 clear e1 e2 HE
 go_enter Tryz.func133, Tryz.ntmps133
 go_wp2_with fail
 refine (lower_s s _ hs).mono ?_
 rintro e w1 ⟨rfl, hb⟩
 have HB := Lib.hid hb; clear hb
 cases b1
 ·cases b2
  ·have HE3 := Lib.hid (show truthS s = none from HE2.out.trans (by simp))
   clear HE2
   go_wp2_with fail
   go_ret2
   exact ⟨by rw [HE3.out]; rfl, HB.out⟩
  ·have HE3 := Lib.hid (show truthS s = some ⟨#[70, 65, 76, 83, 69]⟩ from HE2.out.trans (by simp))
   clear HE2
   go_wp2_with fail
   go_ret2
   exact ⟨by rw [HE3.out]; rfl, HB.out⟩
 ·have HE3 := Lib.hid (show truthS s = some ⟨#[84, 82, 85, 69]⟩ from HE2.out.trans (by simp))
  clear HE2
  go_wp2_with fail
  go_ret2
  exact ⟨by rw [HE3.out]; rfl, HB.out⟩
theorem digS_all {s : ByteArray} (h : ∀ j, j < s.size → digB (chr s j) = true) : digS s.data.toList = !s.toList.isEmpty := by
 unfold digS
 rw [Lib.toList_data]
 have : s.data.toList.all digB = true := by
  rw [List.all_eq_true]
  intro c hc
  obtain ⟨j, hj, rfl⟩ := List.mem_iff_getElem.1 hc
  have h2 := h j (by rw [Lib.size_eq]; exact hj)
  unfold chr at h2
  rwa [List.getD_eq_getElem?_getD, List.getElem?_eq_getElem hj] at h2
 rw [this, Bool.and_true]
theorem digS_not {s : ByteArray} {k : Nat} (hk : k < s.size) (h : digB (chr s k) = false) : digS s.data.toList = false := by
 unfold digS
 have : s.data.toList.all digB = false := by
  rw [Lib.size_eq] at hk
  cases e : s.data.toList.all digB with
  | false => rfl
  | true =>
   have h2 := List.all_eq_true.1 e _ (List.getElem_mem hk)
   unfold chr at h
   rw [List.getD_eq_getElem?_getD, List.getElem?_eq_getElem hk] at h
   rw [show (some s.data.toList[k]).getD 0 = s.data.toList[k] from rfl] at h
   rw [h] at h2; cases h2
 rw [this, Bool.and_false]
theorem digits_s (s : ByteArray) (w : World) (hs : s.size ≤ 1000000000) :
  Calls Tryz.prog 145 #[.string s] w fun e w' => e = .returned (.bool (digS s.data.toList)) ∧ w = w' := by
 go_enter Tryz.func145, Tryz.ntmps145
 go_wp2
 go_loopw [3, 6] (fun s3 i wr => ∃ k : Nat, k ≤ s.size ∧ i = .int .i64 k ∧ Hid (∀ j, j < k → digB (chr s j) = true) ∧ w = wr) (fun _ i _ => s.size - (intOf i).toNat)
 case atStart => exact ⟨0, Nat.zero_le _, rfl, Lib.hid (fun j hj => absurd hj (Nat.not_lt_zero _)), rfl⟩
 case round =>
  obtain ⟨k, hk, rfl, HA, rfl⟩ := hrel
  by_cases hlt : k < s.size
  ·have d1 : (k : Int) < (s.size : Int) := by omega
   obtain ⟨v, hv⟩ : ∃ v, (s[k]'hlt).toNat = v := ⟨_, rfl⟩
   have hbc : (chr s k).toNat = v := by
    have := (byte_chr s k hlt).trans (bt_chr s k)
    omega
   cases hd : digB (chr s k)
   ·have HE := Lib.hid (digS_not hlt hd)
    have hor : v < 48 ∨ (¬ v < 48 ∧ 57 < v) := by
     simp only [digB, Bool.and_eq_false_iff, decide_eq_false_iff_not, hbc] at hd
     omega
    clear hbc hd
    rcases hor with c1 | ⟨c1, c2⟩
    ·have c1' : (v : Int) < 48 := by omega
     go_wp2_with fail
     go_ret
     exact ⟨by rw [HE.out]; rfl, rfl⟩
    ·have c1' : ¬ (v : Int) < 48 := by omega
     have c2' : (57 : Int) < (v : Int) := by omega
     go_wp2_with fail
     go_ret
     exact ⟨by rw [HE.out]; rfl, rfl⟩
   ·have c1 : ¬ (v : Int) < 48 := by
     simp only [digB, Bool.and_eq_true, decide_eq_true_eq, hbc] at hd
     omega
    have c2 : ¬ (57 : Int) < (v : Int) := by
     simp only [digB, Bool.and_eq_true, decide_eq_true_eq, hbc] at hd
     omega
    have HD := Lib.hid hd
    clear hbc hd
    go_wp2_with fail
    go_roundw
    case rel =>
     refine ⟨k + 1, by omega, by go_num, Lib.hid fun j hj => ?_, trivial⟩
     rcases Nat.lt_or_ge j k with h | h
     ·exact HA.out j h
     ·obtain rfl : j = k := by omega
      exact HD.out
    case measure => simp [intOf]; omega
  ·obtain rfl : k = s.size := by omega
   have d1 : ¬ (s.size : Int) < (s.size : Int) := by omega
   have HE := Lib.hid (digS_all HA.out)
   go_wp2_with fail
   go_ret
   exact ⟨by rw [HE.out]; rfl, rfl⟩
theorem trim_small (s : ByteArray) : (⟨(stripL s.data.toList).toArray⟩ : ByteArray).size ≤ s.size := by
 rw [Lib.size_mk, Lib.size_eq]
 unfold stripL Lib.trimPrefix
 split
 ·simp
 ·exact Nat.le_refl _
theorem sat_bounds (l : List UInt8) : -9223372036854775808 ≤ Lib.atoiSat l ∧ Lib.atoiSat l ≤ 9223372036854775807 := by
 unfold Lib.atoiSat
 split
 ·exact ⟨Int.le_refl _, by decide⟩
 ·exact ⟨by decide, Int.le_refl _⟩
set_option maxHeartbeats 4000000 in
theorem number_s (s : ByteArray) (w : World) (hs : s.size ≤ 1100000) (ho : IntOk w) :
  Calls Tryz.prog 131 #[.string s] w fun e w' => ∃ n : Int, -9223372036854775808 ≤ n ∧ n ≤ 9223372036854775807 ∧ e = .returned (.tuple #[.int .i64 n, .bool (numS s).isSome]) ∧ (∀ m, numS s = some m → n = m) ∧ Below w.heap.size w w' := by
 have HO := Lib.hid ho; clear ho
 have HT := Lib.hid (fun W => Tryz.strings_TrimPrefix s ⟨#[45]⟩ W)
 have HD := Lib.hid (fun W => digits_s (⟨(stripL s.data.toList).toArray⟩) W (Nat.le_trans (trim_small s) (by omega)))
 obtain ⟨dg, hdg⟩ : ∃ b, digS (stripL s.data.toList) = b := ⟨_, rfl⟩
 have HDG := Lib.hid hdg; clear hdg
 go_enter Tryz.func131, Tryz.ntmps131
 go_wp2_with fail
 refine (HT.out _).mono ?_
 rintro e w1 ⟨rfl, rfl⟩
 go_wp2_with fail
 refine (HD.out _).mono ?_
 rintro e w1 ⟨rfl, rfl⟩
 dsimp only
 rw [HDG.out]
 cases dg
 ·have HE := Lib.hid (show numS s = none by unfold numS; rw [HDG.out]; rfl)
  go_wp2_with fail
  go_ret2
  exact ⟨0, by decide, by decide, by rw [HE.out]; rfl, (fun m hm => by rw [HE.out] at hm; cases hm), Below.refl _ _⟩
 ·rcases digS_atoi HDG.out with ⟨v, ha⟩ | ha
  ·have HE := Lib.hid (show numS s = some v by unfold numS; rw [HDG.out, ha]; rfl)
   have HC := Lib.hid (fun W => atoi_ok s v W (by omega) ha)
   have hv := Lib.atoiAll_bounds ha
   clear ha
   go_wp2_with fail
   refine (HC.out _).mono ?_
   rintro e w2 ⟨rfl, hb⟩
   have HB := Lib.hid hb; clear hb
   go_wp2_with fail
   go_quiet (fail)
   go_wp2_with fail
   go_ret2
   exact ⟨v, hv.1, hv.2, by rw [HE.out]; rfl, (fun m hm => by rw [HE.out] at hm; exact Option.some.inj hm), HB.out.os, HB.out.tape, HB.out.output, HB.out.size, HB.out.block⟩
  ·have HE := Lib.hid (show numS s = none by unfold numS; rw [HDG.out, ha]; rfl)
   have HA := Lib.hid ha
   have hv := sat_bounds s.data.toList
   obtain ⟨_, tp, p, hvar⟩ := HO.out
   have HC := Lib.hid (Tryz.strconv_Atoi_range_var s (by omega) ha tp p _ hvar)
   clear ha hvar
   go_wp2_with fail
   refine HC.out.mono ?_
   rintro e w2 ⟨N, rfl, _, _, hb⟩
   have HB := Lib.hid hb; clear hb
   go_wp2_with fail
   go_quiet (fail)
   go_wp2_with fail
   go_ret2
   exact ⟨_, hv.1, hv.2, by rw [HE.out]; rfl, (fun m hm => by rw [HE.out] at hm; cases hm), HB.out.os, HB.out.tape, HB.out.output, HB.out.size, HB.out.block⟩
theorem normalForm_s (x : Int) (s : ByteArray) (w : World) (hs : s.size ≤ 1100000) (ho : IntOk w) :
  Calls Tryz.prog 111 #[.int .i64 x, .string s] w fun e w' => ∃ f : ByteArray, e = .returned (.tuple #[.string f, .bool (formS x s).isSome]) ∧ (∀ g, formS x s = some g → f = g) ∧ Below w.heap.size w w' := by
 have HO := Lib.hid ho; clear ho
 by_cases h1 : x = 1
 ·subst h1
  have HE := Lib.hid (show formS 1 s = some (foldS s) from rfl)
  go_enter Tryz.func111, Tryz.ntmps111
  go_wp2_with fail
  refine (fold_s s _ (by omega)).mono ?_
  rintro e w1 ⟨rfl, hb⟩
  have HB := Lib.hid hb; clear hb
  go_wp2_with fail
  go_ret2
  exact ⟨_, by rw [HE.out]; rfl, (fun g hg => by rw [HE.out] at hg; exact Option.some.inj hg), HB.out⟩
 ·by_cases h2 : x = 2
  ·subst h2
   have HE := Lib.hid (show formS 2 s = some s from rfl)
   go_enter Tryz.func111, Tryz.ntmps111
   go_wp2_with fail
   go_ret2
   exact ⟨_, by rw [HE.out]; rfl, (fun g hg => by rw [HE.out] at hg; exact Option.some.inj hg), Below.refl _ _⟩
  ·by_cases h3 : x = 3
   ·subst h3
    have HE := Lib.hid (show formS 3 s = (numS s).map fun n => ofL (Lib.itoa n) from rfl)
    go_enter Tryz.func111, Tryz.ntmps111
    go_wp2_with fail
    refine (number_s s _ hs HO.out).mono ?_
    rintro e w1 ⟨n, n1, n2, rfl, hn, hb⟩
    have HO1 := Lib.hid (HO.out.below hb)
    have HB := Lib.hid hb; clear hb
    go_wp2_with fail
    refine (int_s n _ n1 n2 HO1.out).mono ?_
    rintro e w2 ⟨rfl, hb⟩
    have HB2 := Lib.hid (HB.out.trans (hb.mono HB.out.size)); clear hb
    go_wp2_with fail
    go_ret2
    refine ⟨_, by rw [HE.out, Option.isSome_map]; rfl, (fun g hg => ?_), HB2.out⟩
    rw [HE.out] at hg
    cases e : numS s with
    | none => rw [e] at hg; cases hg
    | some m => rw [e] at hg; rw [hn m e]; exact Option.some.inj hg
   ·by_cases h4 : x = 4
    ·subst h4
     have HE := Lib.hid (show formS 4 s = if Nam.cleanE s = 0 then some (Nam.cleanV s) else none from rfl)
     go_enter Tryz.func111, Tryz.ntmps111
     go_wp2_with fail
     refine (Nam.clean0_s s _ hs).mono ?_
     rintro e w1 ⟨rfl, hb⟩
     have HB := Lib.hid hb; clear hb
     by_cases hc : Nam.cleanE s = 0
     ·have HE2 := Lib.hid (show formS 4 s = some (Nam.cleanV s) from HE.out.trans (if_pos hc))
      rw [hc]
      go_wp2_with fail
      go_ret2
      exact ⟨_, by rw [HE2.out]; rfl, (fun g hg => by rw [HE2.out] at hg; exact Option.some.inj hg), HB.out⟩
     ·have HE2 := Lib.hid (show formS 4 s = none from HE.out.trans (if_neg hc))
      obtain ⟨ec, hec⟩ : ∃ e, Nam.cleanE s = e := ⟨_, rfl⟩
      rw [hec] at hc ⊢
      clear hec
      have hq : (ec == 0) = false := beq_false_of_ne hc
      go_wp2_with fail
      go_ret2
      exact ⟨_, by rw [HE2.out]; rfl, (fun g hg => by rw [HE2.out] at hg; cases hg), HB.out⟩
    ·have HE := Lib.hid (show formS x s = truthS s by unfold formS; rw [if_neg h1, if_neg h2, if_neg h3, if_neg h4])
     go_enter Tryz.func111, Tryz.ntmps111
     go_wp2_with fail
     refine (truth_s s _ (by omega)).mono ?_
     rintro e w1 ⟨rfl, hb⟩
     have HB := Lib.hid hb; clear hb
     go_wp2_with fail
     go_ret2
     exact ⟨_, by rw [HE.out]; rfl, (fun g hg => by rw [HE.out] at hg; rw [hg]; rfl), HB.out⟩
def normE (x : Int) (s : ByteArray) : Int := if (normS x s).isSome then 0 else 8
theorem normal_s (x : Int) (s : ByteArray) (w : World) (hs : s.size ≤ 1100000) (ho : IntOk w) (hf : ∀ f, formS x s = some f → f.size ≤ 1000000000) :
  Calls Tryz.prog 76 #[.int .i64 x, .string s] w fun e w' => e = .returned (.tuple #[.string ((normS x s).getD ⟨#[]⟩), .int .i64 (normE x s)]) ∧ Below w.heap.size w w' := by
 have HF := Lib.hid hf; clear hf
 have HE := Lib.hid (show normS x s = (formS x s).bind fun f => if cleanB s = true ∧ cleanB f = true then some f else none from rfl)
 go_enter Tryz.func76, Tryz.ntmps76
 go_wp2_with fail
 refine (normalForm_s x s _ hs ho).mono ?_
 rintro e w1 ⟨f, rfl, hg, hb⟩
 have HB := Lib.hid hb; clear hb
 cases hq : formS x s with
 | none =>
  have HE2 := Lib.hid (show normS x s = none from HE.out.trans (by rw [hq]; rfl))
  clear hg
  go_wp2_with fail
  go_ret2
  exact ⟨by unfold normE; rw [HE2.out]; rfl, HB.out⟩
 | some g =>
  obtain rfl := hg g hq
  have hfs := HF.out f hq
  obtain ⟨c1, hc1⟩ : ∃ b, cleanB s = b := ⟨_, rfl⟩
  obtain ⟨c2, hc2⟩ : ∃ b, cleanB f = b := ⟨_, rfl⟩
  have HE2 := Lib.hid (show normS x s = if c1 = true ∧ c2 = true then some f else none from HE.out.trans (by rw [hq]; show (if cleanB s = true ∧ cleanB f = true then some f else none) = _; rw [hc1, hc2]))
  have HC := Lib.hid (And.intro hc1 hc2)
  clear hc1 hc2 hg
  go_wp2_with fail
  refine (clean_s s _ (by omega)).mono ?_
  rintro e w2 ⟨rfl, rfl⟩
  rw [HC.out.1]
  cases c1
  ·have HE3 := Lib.hid (show normS x s = none from HE2.out.trans (by simp))
   go_wp2_with fail
   go_ret2
   exact ⟨by unfold normE; rw [HE3.out]; rfl, HB.out⟩
  ·go_wp2_with fail
   refine (clean_s f _ hfs).mono ?_
   rintro e w2 ⟨rfl, rfl⟩
   rw [HC.out.2]
   cases c2
   ·have HE3 := Lib.hid (show normS x s = none from HE2.out.trans (by simp))
    go_wp2_with fail
    go_ret2
    exact ⟨by unfold normE; rw [HE3.out]; rfl, HB.out⟩
   ·have HE3 := Lib.hid (show normS x s = some f from HE2.out.trans (by simp))
    go_wp2_with fail
    go_ret2
    exact ⟨by unfold normE; rw [HE3.out]; rfl, HB.out⟩
end Go.Proofs.YtonfkhkalodldabGreatDoor
end
