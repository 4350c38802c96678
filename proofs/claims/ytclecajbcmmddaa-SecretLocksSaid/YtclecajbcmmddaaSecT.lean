/-
  Contract of the locks' Fail. Condition: the locks lie in memory as SecM says; names of at most 1000000000 bytes.
-/
import Derived.Test.YtclecajbcmmddaaSecS
set_option maxRecDepth 100000
set_option maxRecDepth 100000
set_option linter.unusedVariables false
set_option linter.unusedSimpArgs false
set_option linter.unnecessarySimpa false
namespace Go.Proofs.Ytclecajbcmmddaa
open Go.RowKit Go.PlainAid

/-- what stands while Fail works on a user's record in its box -/
structure FM (w : World) (A : Us) (ρ : ByteArray → Value) (u : ByteArray) (v : Value) (z : Int) (l : List Int) (W : World) : Prop where
  os : W.os = w.os
  tape : W.tape = w.tape
  output : W.output = w.output
  size : w.heap.size + 1 ≤ W.heap.size
  old : ∀ i, i < w.heap.size → (∀ r0, usO A u = some r0 → (ρ u).ownBlock ≠ some i) → W.heap[i]? = w.heap[i]?
  box : KbC W w.heap.size (.cells #[v, .int .i64 z] 59)
  row : IR W v l
  at_ : v.ownBlock = none ∨ (∃ r0, usO A u = some r0 ∧ v.ownBlock = (ρ u).ownBlock ∧ ∀ i, (ρ u).ownBlock = some i → i < w.heap.size) ∨ ∃ i, v.ownBlock = some i ∧ w.heap.size < i
section
variable {w W V w1 : World} {A : Us} {ρ : ByteArray → Value} {u : ByteArray} {v v' : Value} {z z' : Int} {l l' : List Int}
theorem FM.step (h : FM w A ρ u v z l W) (hb : Below W.heap.size W V) : FM w A ρ u v z l V :=
  ⟨hb.os.trans h.os, hb.tape.trans h.tape, hb.output.trans h.output, Nat.le_trans h.size hb.size, fun i hi hn => (hb.block i (by have := h.size; omega)).trans (h.old i hi hn), h.box.step hb,
    h.row.keep hb.size fun i e => hb.block i (h.row.lt e), h.at_⟩
theorem FM.far (h : FM w A ρ u v z l W) : v.ownBlock ≠ some w.heap.size := fun e => by
  rcases h.at_ with k | ⟨r0, _, k, k2⟩ | ⟨i, k, k2⟩
  · rw [k] at e; cases e
  · have := k2 w.heap.size (by rw [← k]; exact e); omega
  · rw [k] at e; injection e with e; omega
theorem FM.put (h : FM w A ρ u v z l W) (hos : w1.os = W.os) (htape : w1.tape = W.tape) (hout : w1.output = W.output) (hs : W.heap.size ≤ w1.heap.size) (hb : ∀ i, i < W.heap.size → v.ownBlock ≠ some i → w1.heap[i]? = W.heap[i]?)
    (hr : IR w1 v' l') (ha : v'.ownBlock = v.ownBlock ∨ ∃ i, v'.ownBlock = some i ∧ W.heap.size ≤ i) : FM w A ρ u v' z l' (w1.setCell ⟨w.heap.size, 0, none⟩ v') := by
  have hsz := h.size
  have hne : v'.ownBlock ≠ some w.heap.size := fun e => by
    rcases ha with k | ⟨i, k, k2⟩
    · exact h.far (by rw [← k]; exact e)
    · rw [k] at e; injection e with e; omega
  have hbox : KbC w1 w.heap.size (.cells #[v, .int .i64 z] 59) := (hb _ (by omega) h.far).trans h.box
  refine ⟨hos.trans h.os, htape.trans h.tape, hout.trans h.output, by show _ ≤ (w1.setCell _ _).heap.size; simp only [World.setCell, Array.size_modify]; omega, fun i hi hn => ?_, hbox.set (i := 0) v', ?_, ?_⟩
  · refine (Below.heap_setCell w1 ⟨w.heap.size, 0, none⟩ _ i (by show i ≠ w.heap.size; omega)).trans ((hb i (by omega) fun e => ?_).trans (h.old i hi hn))
    rcases h.at_ with k | ⟨r0, k0, k, _⟩ | ⟨j, k, k2⟩
    · rw [k] at e; cases e
    · exact hn r0 k0 (by rw [← k]; exact e)
    · rw [k] at e; injection e with e; omega
  · refine hr.keep (by simp only [World.setCell, Array.size_modify]; exact Nat.le_refl _) fun i e => Below.heap_setCell w1 ⟨w.heap.size, 0, none⟩ _ i (fun q => hne (by rw [e]; exact congrArg some q))
  · rcases ha with k | ⟨i, k, k2⟩
    · rw [k]; exact h.at_
    · exact .inr (.inr ⟨i, k, by omega⟩)
theorem FM.until (h : FM w A ρ u v z l W) (z' : Int) : FM w A ρ u v z' l (W.setCell ⟨w.heap.size, 1, none⟩ (.int .i64 z')) := by
  have hsz := h.size
  refine ⟨h.os, h.tape, h.output, by simp only [World.setCell, Array.size_modify]; exact hsz, fun i hi hn => (Below.heap_setCell W ⟨w.heap.size, 1, none⟩ _ i (by show i ≠ w.heap.size; omega)).trans (h.old i hi hn), h.box.set (i := 1) _, ?_, h.at_⟩
  exact h.row.keep (by simp only [World.setCell, Array.size_modify]; exact Nat.le_refl _) fun i e => Below.heap_setCell W ⟨w.heap.size, 1, none⟩ _ i (fun q => h.far (by rw [e]; exact congrArg some q))
theorem FM.flat (h : FM w A ρ u v z l W) : W.cell? ⟨w.heap.size, 0, none⟩ = some v ∧ W.cell? ⟨w.heap.size, 1, none⟩ = some (.int .i64 z) ∧ W.frozen? ⟨w.heap.size, 0, none⟩ = false ∧ W.frozen? ⟨w.heap.size, 1, none⟩ = false :=
  ⟨h.box.cell rfl, h.box.cell rfl, h.box.frz, h.box.frz⟩
/-- the object itself stands -/
theorem FM.obj {S : Nat → Prop} {b g : Nat} {most win lock : Int} (h : FM w A ρ u v z l W) (hx : LX w S b g ρ most win lock A) : KbC W b (lkO b g most win lock) ∧ SMap W g A.length (usF A ρ) :=
  ⟨(h.old b hx.big.1 fun r0 e0 e => (hx.own u r0 e0 b e).2.1 rfl).trans hx.blk, hx.map.keep (h.old g hx.big.2 fun r0 e0 e => (hx.own u r0 e0 g e).2.2 rfl)⟩
theorem fm_new {S : Nat → Prop} {b g : Nat} {most win lock : Int} (hx : LX w S b g ρ most win lock A) (hr : IR w v l) (h1 : usO A u = none → v = .slice none 0 0) (h2 : ∀ r, usO A u = some r → v = ρ u) :
    FM w A ρ u v z l (w.alloc (.cells #[v, .int .i64 z] 59)) :=
  ⟨rfl, rfl, rfl, by simp, fun i hi _ => Below.heap_alloc w _ i hi, kbc_new w _, hr.keep (by simp) fun i e => Below.heap_alloc w _ i (hr.lt e), by
    cases e : usO A u with
    | none => rw [h1 e]; exact .inl rfl
    | some r => rw [h2 r e]; exact .inr (.inl ⟨r, rfl, rfl, fun i e1 => (hx.rows u r e).lt e1⟩)⟩
/-- the record is stored: the new locks -/
theorem FM.done {S : Nat → Prop} {b g : Nat} {most win lock : Int} {w2 : World} (h : FM w A ρ u v z l W) (hx : LX w S b g ρ most win lock A) (hv : v.ownBlock ≠ none) (hr : RcOk (l, z)) (hl : (usO A u).isSome = true ∨ A.length < 256)
    (hm : SMap w2 g (if ((usF A ρ) u).isSome then A.length else A.length + 1) (setO (usF A ρ) u (rcV v z))) (hg : W.grownBy w2 (some g)) :
    LK w2 (nw S w w2) b most win lock (usSet A u (l, z)) ∧ Fo S w w2 := by
  have hlen : (if ((usF A ρ) u).isSome then A.length else A.length + 1) = (usSet A u (l, z)).length := by
    rw [usSet_len]
    have : ((usF A ρ) u).isSome = (usO A u).isSome := by unfold usF; cases usO A u <;> rfl
    rw [this]
  rw [hlen] at hm
  have hsz := h.size
  have P := hx.put (w1 := W) (w2 := w2) (r := (l, z)) hr hl (by omega) h.row (fun i hi hn => h.old i hi hn) (by
    rcases h.at_ with k | ⟨r0, k0, k, _⟩ | ⟨i, k, k2⟩
    · exact absurd k hv
    · exact .inl ⟨r0, k0, k⟩
    · exact .inr ⟨i, k, by omega, h.row.lt k⟩) hm hg
  refine ⟨⟨g, _, P.mono fun i hi => ?_⟩, hg.os.trans h.os, hg.tape.trans h.tape, hg.output.trans h.output, by have := hg.size; omega, fun i hi hn => ?_⟩
  · rcases hi with hi | hi
    · exact .inl hi
    · exact .inr ⟨hi.1, Nat.lt_of_lt_of_le hi.2 hg.size⟩
  · refine (hg.block i (by omega) fun e => hn (by injection e with e; rw [e]; exact hx.sg)).trans (h.old i hi fun r0 e0 e => hn (hx.own u r0 e0 i e).1)
end
/-- 'l = append(l, c)' -/
theorem push_w {ops : Array Oper} {rest : List Oper} {o : Oper} {a : Act} {Q : Exit → Act → World → Prop} (wr : World) {v : Value} {l : List Int} (h : IR wr v l) (s x : Operand) (c : Int) (hgd : o.guard = none)
    (ho : o.op = .call { callee := .builtin .append, args := #[s, x], argTypes := #[57, 57] })
    (hs : a.eval s = v) {N : Nat} (hN : wr.heap.size = N) (hx : a.eval x = .slice (some ⟨N, 0, none⟩) 1 1) (hl : l.length ≤ 1000000)
    (hK : ∀ v' w', IR w' v' (l ++ [c]) → Hid ((wr.alloc (.cells #[.int .i64 c] 3)).grownBy w' v.ownBlock) → Hid (v'.ownBlock = v.ownBlock ∨ ∃ i, v'.ownBlock = some i ∧ wr.heap.size ≤ i) → wpList Try.prog ops Q rest (a.put o.dst v') w') :
    wpList Try.prog ops Q (o :: rest) a (wr.alloc (.cells #[.int .i64 c] 3)) := by
  subst hN
  refine wpList_plain hgd fun K hK' => ?_
  obtain ⟨v', w', hrun, r1, r2, r3⟩ := run_push_i (wr.alloc (.cells #[.int .i64 c] 3)) o.type (h.keep (by simp) fun i e => Below.heap_alloc wr _ i (h.lt e)) c ⟨wr.heap.size, 0, none⟩ ((kbc_new wr _).cell rfl) hl
  unfold Oper.wp
  simp [execOp, ho, resolve, invoke, builtin, hs, hx, hrun, Result.andThen]
  exact hK' _ _ (hK v' w' r1 (Lib.hid r2) (Lib.hid (r3.imp id fun ⟨i, e, k⟩ => ⟨i, e, by rw [World.size_alloc] at k; omega⟩)))
theorem wpList_len_s {ops : Array Oper} {rest : List Oper} {o : Oper} {a : Act} {Q : Exit → Act → World → Prop} {w : World} (hg : o.guard = none) (m : Operand) {g n : Nat} {f : ByteArray → Option Value} {t e : TypeId}
    (hop : o.op = Op.call { callee := Callee.builtin Builtin.len, args := #[m], argTypes := #[t] }) (h : SMap w g n f) (ht : Try.prog.underlying t = some (.map 9 e)) (hm : a.eval m = .map (some g))
    (hK : wpList Try.prog ops Q rest (a.put o.dst (.int .i64 n)) w) : wpList Try.prog ops Q (o :: rest) a w := by
  refine wpList_plain hg fun K' hK' => ?_
  unfold Oper.wp
  simp [execOp, hop, resolve, invoke, builtin, hm, h.len ht o.type, Result.andThen]
  exact hK' _ _ hK

end Go.Proofs.Ytclecajbcmmddaa
