/-
  Journals as they lie in memory: an object's block, its row of records, what a method changes and what it leaves. No condition.
-/
import Derived.Test.YtafecnaeoeanmaaDoorJouA
import Derived.Laws.NewBlocks
import Derived.Laws.AppendOwnNone
import Derived.Laws.OwnMore
import Derived.Laws.CopyOwn
import Derived.Maps.AppendAt
import Derived.Deep.Onto
set_option maxRecDepth 100000
set_option linter.unusedVariables false
set_option linter.unusedSimpArgs false
set_option linter.unnecessarySimpa false
namespace Go.Proofs.YtafecnaeoeanmaaDoor
open Go.RowKit Go.PlainAid

def KbC (W : World) (b : Nat) (o : Obj) : Prop := W.heap[b]? = some o
theorem KbC.big {W : World} {b : Nat} {o : Obj} (h : KbC W b o) : b < W.heap.size := by
  rcases Nat.lt_or_ge b W.heap.size with k | k
  · exact k
  · unfold KbC at h; rw [Array.getElem?_eq_none k] at h; cases h
theorem KbC.step {W V : World} {b : Nat} {o : Obj} (h : KbC W b o) (hb : Below W.heap.size W V) : KbC V b o := (hb.block b h.big).trans h
theorem kbc_new (W : World) (o : Obj) : KbC (W.alloc o) W.heap.size o := heap_alloc_new W o
theorem KbC.cell {W : World} {b i : Nat} {c : Array Value} {t : TypeId} {v : Value} (h : KbC W b (.cells c t)) (hv : c[i]? = some v) : W.cell? ⟨b, i, none⟩ = some v := by
  unfold World.cell?
  rw [show W.heap[b]? = some (.cells c t) from h]
  exact hv
theorem KbC.frz {W : World} {b i : Nat} {c : Array Value} {t : TypeId} (h : KbC W b (.cells c t)) : W.frozen? ⟨b, i, none⟩ = false := by
  have h : W.heap[b]? = some (.cells c t) := h
  simp [World.frozen?, h]
theorem KbC.set {W : World} {b i : Nat} {c : Array Value} {t : TypeId} (h : KbC W b (.cells c t)) (v : Value) : KbC (W.setCell ⟨b, i, none⟩ v) b (.cells (c.setIfInBounds i v) t) := by
  have h0 : W.heap[b]? = some (.cells c t) := h
  unfold KbC World.setCell
  rw [Array.getElem?_modify, h0]
  simp

/-- a journal: what tells it, its row, how many of its records are durable -/
structure OA (W : World) (B b : Nat) (me : Value) (t : TypeId) (l : List ByteArray) (d : Nat) (v : Value) : Prop where
  blk : KbC W b (.cells #[me, v, .int .i64 d] t)
  row : W.ownsRow B 9 1 v l.length (scells l)
  low : B ≤ b
  ne : v.ownBlock ≠ some b
  dl : d ≤ l.length
  cnt : l.length ≤ 4096
  sm : ∀ r ∈ l, r.size ≤ 4096
def JA (W : World) (B b : Nat) (l : List ByteArray) (d : Nat) (v : Value) : Prop := OA W B b (.pointer (some ⟨b, 0, none⟩)) 60 l d v
def RA (W : World) (B b : Nat) (l : List ByteArray) (d : Nat) (v : Value) : Prop := OA W B b (.bool true) 62 l d v
section
variable {W w w' V : World} {B b b' d d' : Nat} {me me' : Value} {t t' : TypeId} {l l' : List ByteArray} {v v' u u' : Value}
theorem OA.step (h : OA W B b me t l d v) (hb : Below W.heap.size W V) : OA V B b me t l d v :=
  ⟨h.blk.step hb, own_below h.row hb, h.low, h.ne, h.dl, h.cnt, h.sm⟩
theorem OA.mono {B' : Nat} (h : OA W B b me t l d v) (hB : B' ≤ B) : OA W B' b me t l d v :=
  ⟨h.blk, h.row.mono hB, Nat.le_trans hB h.low, h.ne, h.dl, h.cnt, h.sm⟩
/-- two journals lie apart -/
structure Ap (b : Nat) (v : Value) (b' : Nat) (v' : Value) : Prop where
  bb : b ≠ b'
  vb : v.ownBlock ≠ some b'
  bv : v'.ownBlock ≠ some b
  vv : v.ownBlock = none ∨ v.ownBlock ≠ v'.ownBlock
theorem Ap.symm (h : Ap b v b' v') : Ap b' v' b v :=
  ⟨fun e => h.bb e.symm, h.bv, h.vb, by
    rcases h.vv with k | k
    · cases e : v'.ownBlock with
      | none => exact .inl rfl
      | some g => rw [k]; exact .inr (by simp)
    · exact .inr fun e => k e.symm⟩
/-- what a method of one journal changes: its block, its row -/
structure Mv (b : Nat) (v v' : Value) (w w' : World) : Prop where
  os : w'.os = w.os
  tape : w'.tape = w.tape
  output : w'.output = w.output
  size : w.heap.size ≤ w'.heap.size
  block : ∀ k, k < w.heap.size → k ≠ b → v.ownBlock ≠ some k → w'.heap[k]? = w.heap[k]?
  at_ : v'.ownBlock = v.ownBlock ∨ ∀ g, v'.ownBlock = some g → w.heap.size ≤ g
theorem Mv.below (hm : Mv b u u' w w') (h : OA w B b me t l d u) : Below B w w' :=
  ⟨hm.os, hm.tape, hm.output, hm.size, fun k hk => by
    rcases Nat.lt_or_ge k w.heap.size with hw | hw
    · refine hm.block k hw (fun e => ?_) (fun e => ?_)
      · have := h.low; omega
      · have := (h.row.lt k e).1; omega
    · have := h.blk.big; have := h.low; omega⟩
theorem own_keep {base : Nat} {e : TypeId} {size : Nat} {n : Nat} {xs : List Value} (h : w.ownsRow base e size v n xs) (hk : ∀ g, v.ownBlock = some g → w'.heap[g]? = w.heap[g]?) : w'.ownsRow base e size v n xs := by
  refine ⟨h.1, ?_⟩
  rcases h.2 with hn | ⟨g, cap, cur, rfl, hb, hgg, rest⟩
  · exact .inl hn
  · exact .inr ⟨g, cap, cur, rfl, hb, (hk g rfl).trans hgg, rest⟩
theorem Mv.other (hm : Mv b u u' w w') (h : OA w B b' me t l d v) (ha : Ap b u b' v) : OA w' B b' me t l d v ∧ Ap b u' b' v := by
  have hv : ∀ g, v.ownBlock = some g → g < w.heap.size ∧ g ≠ b ∧ u.ownBlock ≠ some g := fun g e =>
    ⟨(h.row.lt g e).2, fun e2 => ha.bv (by rw [e, e2]), fun e2 => by
      rcases ha.vv with k | k
      · rw [k] at e2; cases e2
      · exact k (e2.trans e.symm)⟩
  refine ⟨⟨?_, ?_, h.low, h.ne, h.dl, h.cnt, h.sm⟩, ⟨ha.bb, ?_, ha.bv, ?_⟩⟩
  · exact (hm.block b' h.blk.big (fun e => ha.bb e.symm) ha.vb).trans h.blk
  · exact own_keep h.row fun g e => hm.block g (hv g e).1 (hv g e).2.1 (hv g e).2.2
  · rcases hm.at_ with k | k
    · rw [k]; exact ha.vb
    · intro e
      have := k _ e
      have := h.blk.big
      omega
  · rcases hm.at_ with k | k
    · rw [k]; exact ha.vv
    · cases e : u'.ownBlock with
      | none => exact .inl rfl
      | some g =>
        refine .inr fun e2 => ?_
        have h1 := k g e
        have h2 := (hv g e2.symm).1
        omega
theorem Mv.refl (b : Nat) (u : Value) (w : World) : Mv b u u w w := ⟨rfl, rfl, rfl, Nat.le_refl _, fun _ _ _ _ => rfl, .inl rfl⟩
theorem Mv.of_below (hb : Below w.heap.size w w') : Mv b u u w w' := ⟨hb.os, hb.tape, hb.output, hb.size, fun k hk _ _ => hb.block k hk, .inl rfl⟩
theorem Mv.trans {w2 : World} {u2 : Value} (h : Mv b u u' w w') (k : Mv b u' u2 w' w2) : Mv b u u2 w w2 :=
  ⟨k.os.trans h.os, k.tape.trans h.tape, k.output.trans h.output, Nat.le_trans h.size k.size, fun i hi h1 h2 => (k.block i (Nat.lt_of_lt_of_le hi h.size) h1 (by
    rcases h.at_ with e | e
    · rw [e]; exact h2
    · intro e2
      have := e i e2
      omega)).trans (h.block i hi h1 h2), by
    rcases k.at_ with e | e
    · rcases h.at_ with e2 | e2
      · exact .inl (e.trans e2)
      · exact .inr fun g hg => e2 g (e ▸ hg)
    · exact .inr fun g hg => Nat.le_trans h.size (e g hg)⟩
theorem Mv.of_grown (h : w.grownBy w' u.ownBlock) (hat : u'.ownBlock = u.ownBlock ∨ ∃ g, u'.ownBlock = some g ∧ w.heap.size ≤ g) : Mv b u u' w w' :=
  ⟨h.os, h.tape, h.output, h.size, fun k hk _ h2 => h.block k hk (fun e => h2 e.symm), by
    rcases hat with e | ⟨g, e, hg⟩
    · exact .inl e
    · exact .inr fun g' e' => by rw [e] at e'; injection e' with e'; omega⟩
theorem Mv.of_fresh (h : Below w.heap.size w w') (hat : u'.ownBlock = none ∨ ∃ g, u'.ownBlock = some g ∧ w.heap.size ≤ g) : Mv b u u' w w' :=
  ⟨h.os, h.tape, h.output, h.size, fun k hk _ _ => h.block k hk, .inr fun g' e' => by
    rcases hat with e | ⟨g, e, hg⟩
    · rw [e] at e'; cases e'
    · rw [e] at e'; injection e' with e'; omega⟩
theorem Mv.set (i : Nat) (x : Value) : Mv b u u w (w.setCell ⟨b, i, none⟩ x) :=
  ⟨rfl, rfl, rfl, by simp [World.setCell], fun k _ h1 _ => Below.heap_setCell w ⟨b, i, none⟩ x k h1, .inl rfl⟩
/-- a new number of durable records -/
theorem OA.sync (h : OA w B b me t l d v) {n : Nat} (hn : n ≤ l.length) : OA (w.setCell ⟨b, 2, none⟩ (.int .i64 n)) B b me t l n v :=
  ⟨h.blk.set (i := 2) _, own_keep h.row fun g e => Below.heap_setCell w ⟨b, 2, none⟩ _ g (fun e2 => h.ne (by rw [e, e2])), h.low, h.ne, hn, h.cnt, h.sm⟩
/-- a new row -/
theorem OA.put (h : OA w B b me t l d v) (hm : Mv b v v' w w') (hb : w'.heap[b]? = w.heap[b]?) (hrow : w'.ownsRow B 9 1 v' l'.length (scells l')) (hd : d ≤ l'.length) (hc : l'.length ≤ 4096) (hs : ∀ r ∈ l', r.size ≤ 4096) :
    OA (w'.setCell ⟨b, 1, none⟩ v') B b me t l' d v' ∧ Mv b v v' w (w'.setCell ⟨b, 1, none⟩ v') := by
  have hne : v'.ownBlock ≠ some b := by
    rcases hm.at_ with e | e
    · rw [e]; exact h.ne
    · intro e2
      have := e b e2
      have := h.blk.big
      omega
  have hk : KbC w' b (.cells #[me, v, .int .i64 d] t) := hb.trans h.blk
  exact ⟨⟨hk.set (i := 1) v', own_keep hrow fun g e => Below.heap_setCell w' ⟨b, 1, none⟩ _ g (fun e2 => hne (by rw [e, e2])), h.low, hne, hd, hc, hs⟩, hm.trans (Mv.set 1 v')⟩
theorem OA.flat (h : OA w B b me t l d v) : w.cell? ⟨b, 0, none⟩ = some me ∧ w.cell? ⟨b, 1, none⟩ = some v ∧ w.cell? ⟨b, 2, none⟩ = some (.int .i64 d) ∧ w.frozen? ⟨b, 1, none⟩ = false ∧ w.frozen? ⟨b, 2, none⟩ = false :=
  ⟨h.blk.cell rfl, h.blk.cell rfl, h.blk.cell rfl, h.blk.frz, h.blk.frz⟩
end
/-- a slice of strings cut in front -/
theorem StrsAt.from {w : World} {b off n cap : Nat} {l : List ByteArray} (h : StrsAt w (some ⟨b, off, none⟩) n cap l) (d : Nat) (hd : d ≤ n) : StrsAt w (some ⟨b, off + d, none⟩) (n - d) (cap - d) (l.drop d) := by
  obtain ⟨h1, h2, h3, h4⟩ := h
  refine ⟨by rw [List.length_drop, h1], by omega, by omega, fun hn => ?_⟩
  obtain ⟨b', off', e, hi⟩ := h4 (by omega)
  cases e
  refine ⟨b, off + d, rfl, hi.1, fun j hj => ?_⟩
  rw [List.length_drop] at hj
  have h5 := hi.2 (j + d) (by omega)
  rw [show off + d + j = off + (j + d) by omega, h5]
  unfold partAt
  rw [List.getD_eq_getElem?_getD, List.getD_eq_getElem?_getD, List.getElem?_drop, Nat.add_comm]
/-- a slice of strings cut behind -/
theorem StrsAt.upto {w : World} {b off n cap : Nat} {l : List ByteArray} (h : StrsAt w (some ⟨b, off, none⟩) n cap l) (d : Nat) (hd : d ≤ n) : StrsAt w (some ⟨b, off, none⟩) d cap (l.take d) := by
  obtain ⟨h1, h2, h3, h4⟩ := h
  refine ⟨by rw [List.length_take, h1]; omega, by omega, h3, fun hn => ?_⟩
  obtain ⟨b', off', e, hi⟩ := h4 (by omega)
  cases e
  refine ⟨b, off, rfl, hi.1, fun j hj => ?_⟩
  rw [List.length_take] at hj
  have h5 := hi.2 j (by omega)
  rw [h5]
  unfold partAt
  rw [List.getD_eq_getElem?_getD, List.getD_eq_getElem?_getD, List.getElem?_take, if_pos (by omega)]
/-- an own row cut behind -/
theorem own_cut {w : World} {base g cap n : Nat} {l : List ByteArray} (h : w.ownsRow base 9 1 (.slice (some ⟨g, 0, none⟩) n cap) n (scells l)) (i : Nat) (hi : i ≤ n) :
    w.ownsRow base 9 1 (.slice (some ⟨g, 0, none⟩) i cap) i (scells (l.take i)) := by
  obtain ⟨hl, ⟨he, _⟩ | ⟨g', cap', cur, he, h2, h3, h4, h5, h6, h7⟩⟩ := h
  · cases he
  · cases he
    have hs : (scells l).length = l.length := by simp [scells]
    have e : scells (l.take i) = (scells l).take i := by simp [scells, List.map_take]
    refine ⟨by rw [e, List.length_take, hl]; omega, .inr ⟨g, cap, cur, rfl, h2, h3, by omega, h5, h6, ?_⟩⟩
    rw [e, ← h7, List.take_take, Nat.mul_one, Nat.min_eq_left (by omega)]
/-- 'l = append(l, s)' where l is an own row, and where the row lies behind it -/
theorem push_j {ops : Array Oper} {rest : List Oper} {o : Oper} {a : Act} {Q : Exit → Act → World → Prop} (wr : World) {base : Nat} {v : Value} {n : Nat} {xs : List Value} (hown : wr.ownsRow base 9 1 v n xs) (s x : Operand)
    (p : ByteArray) (hgd : o.guard = none)
    (ho : o.op = .call { callee := .builtin .append, args := #[s, x], argTypes := #[23, 23] })
    (hs : a.eval s = v) (hx : a.eval x = .slice (some ⟨wr.heap.size, 0, none⟩) 1 1) (hn : n + 1 ≤ 1000000000) (hbase : base ≤ wr.heap.size)
    (h : ∀ v' w', w'.ownsRow base 9 1 v' (n + 1) (xs ++ [.string p]) → Hid (wr.grownBy w' v.ownBlock) → Hid (v'.ownBlock = v.ownBlock ∨ ∃ g, v'.ownBlock = some g ∧ wr.heap.size ≤ g) → wpList Tryd.prog ops Q rest (a.put o.dst v') w') :
    wpList Tryd.prog ops Q (o :: rest) a (wr.alloc (.cells #[.string p] 9)) := by
  obtain ⟨i0, hi, hz0, hz1, hz2⟩ := info_parts info_string
  refine wpList_append_own_at _ hgd s x 23 ho base 9 i0 (.string ⟨#[]⟩) 1 16 Tryd.underlying23 hi hz0 hz1 hz2 rfl (by decide) v n xs hs (hown.alloc _) ⟨wr.heap.size, 0, none⟩ 1 1 [.string p] hx rfl
    (cell_one_new _ _ _) (by intro u hu; simp at hu; subst hu; rfl) (by unfold maxLen; omega) (by omega) (by simp; omega) ?_
  intro v' w' h1 h2 _ h4
  refine h v' w' h1 (Lib.hid ((World.grownBy_alloc wr _ _).trans h2)) (Lib.hid ?_)
  rcases h4 with h4 | h4
  · exact .inl h4
  · exact .inr ⟨_, h4, by simp⟩
/-- 'l = append(l, m...)' where l and m are own rows -/
theorem app_j {ops : Array Oper} {rest : List Oper} {o : Oper} {a : Act} {Q : Exit → Act → World → Prop} (wr : World) {base base2 : Nat} {v u : Value} {n m : Nat} {xs : List Value} {news : List ByteArray} (hown : wr.ownsRow base 9 1 v n xs) (s x : Operand)
    (hu : wr.ownsRow base2 9 1 u m (scells news)) (hgd : o.guard = none)
    (ho : o.op = .call { callee := .builtin .append, args := #[s, x], argTypes := #[23, 23] })
    (hs : a.eval s = v) (hx : a.eval x = u) (hn : n + m ≤ 1000000000) (hbase : base ≤ wr.heap.size)
    (h : ∀ v' w', w'.ownsRow base 9 1 v' (n + m) (xs ++ scells news) → Hid (wr.grownBy w' v.ownBlock) → Hid (v'.ownBlock = v.ownBlock ∨ ∃ g, v'.ownBlock = some g ∧ wr.heap.size ≤ g) → wpList Tryd.prog ops Q rest (a.put o.dst v') w') :
    wpList Tryd.prog ops Q (o :: rest) a wr := by
  obtain ⟨i0, hi, hz0, hz1, hz2⟩ := info_parts info_string
  have hlen : (scells news).length = m := by have := hu.1; rw [this]; omega
  have hone : ∀ y ∈ scells news, y.oneCell' = true := by
    intro y hy
    obtain ⟨z, _, rfl⟩ := List.mem_map.1 hy
    rfl
  have hu0 := hu
  rcases hu.2 with ⟨rfl, rfl⟩ | ⟨g, cap, cur, rfl, _, _, _, _, _, _⟩
  · refine wpList_append_own_none hgd s x 23 ho base 9 i0 1 Tryd.underlying23 hi v n xs hs hown hx ?_
    have e : scells news = [] := List.eq_nil_of_length_eq_zero hlen
    have := h v wr (by rw [e, List.append_nil]; exact hown) (Lib.hid ⟨rfl, rfl, rfl, Nat.le_refl _, fun _ _ _ => rfl⟩) (Lib.hid (.inl rfl))
    exact this
  · refine wpList_append_own_at _ hgd s x 23 ho base 9 i0 (.string ⟨#[]⟩) 1 16 Tryd.underlying23 hi hz0 hz1 hz2 rfl (by decide) v n xs hs hown ⟨g, 0, none⟩ m cap (scells news) hx (by rw [hlen]; omega)
      (hu0.cells rfl) hone (by unfold maxLen; omega) (by omega) hbase ?_
    intro v' w' h1 h2 _ h4
    refine h v' w' h1 (Lib.hid h2) (Lib.hid ?_)
    rcases h4 with h4 | h4
    · exact .inl h4
    · exact .inr ⟨_, h4, Nat.le_refl _⟩

end Go.Proofs.YtafecnaeoeanmaaDoor
