/-
  Boxes: what a block holds, kept while the world grows above it. No condition.
-/
import Derived.Test.YtminodinhbcgnaaDoorBaseLow
import Derived.Laws.NewBlocks
set_option linter.unusedVariables false
set_option linter.unusedSimpArgs false
set_option linter.unnecessarySimpa false
namespace Go.Proofs.YtminodinhbcgnaaDoor
open Go.RowKit Go.PlainAid

def KbC (W : World) (b : Nat) (o : Obj) : Prop := W.heap[b]? = some o
theorem KbC.big {W : World} {b : Nat} {o : Obj} (h : KbC W b o) : b < W.heap.size := by
  rcases Nat.lt_or_ge b W.heap.size with k | k
  · exact k
  · unfold KbC at h; rw [Array.getElem?_eq_none k] at h; cases h
theorem KbC.step {W V : World} {b : Nat} {o : Obj} (h : KbC W b o) (hb : Below W.heap.size W V) : KbC V b o := (hb.block b h.big).trans h
theorem KbC.keep {W V : World} {b B : Nat} {o : Obj} (h : KbC W b o) (hb : Below B W V) (hB : b < B) : KbC V b o := (hb.block b hB).trans h
theorem kbc_new (W : World) (o : Obj) : KbC (W.alloc o) W.heap.size o := heap_alloc_new W o
theorem KbC.cell {W : World} {b i : Nat} {c : Array Value} {t : TypeId} {v : Value} (h : KbC W b (.cells c t)) (hv : c[i]? = some v) : W.cell? ⟨b, i, none⟩ = some v := by
  unfold World.cell?
  rw [show W.heap[b]? = some (.cells c t) from h]
  exact hv
theorem KbC.frz {W : World} {b i : Nat} {c : Array Value} {t : TypeId} (h : KbC W b (.cells c t)) : W.frozen? ⟨b, i, none⟩ = false := by
  have h : W.heap[b]? = some (.cells c t) := h
  simp [World.frozen?, h]
theorem KbC.set {W : World} {b i : Nat} {c : Array Value} {t : TypeId} (h : KbC W b (.cells c t)) (v : Value) : KbC (W.setCell ⟨b, i, none⟩ v) b (.cells (c.setIfInBounds i v) t) := by
  have h0 : W.heap[b]? = some (.cells c t) := h
  unfold KbC World.setCell
  rw [Array.getElem?_modify, h0]
  simp
theorem box_below (w : World) (o : Obj) : Below w.heap.size w (w.alloc o) := (Below.refl w.heap.size w).alloc (Nat.le_refl _) o
end Go.Proofs.YtminodinhbcgnaaDoor
