/-
  Contracts of name.shared and of Under in the program and in the specification. Condition: at most 1000000 bytes.
-/
import Derived.Test.YtdjhhofmlefaaaaDoorNamJ
set_option linter.unusedVariables false
set_option linter.unusedSimpArgs false
set_option linter.unnecessarySimpa false
namespace Go.Proofs.YtdjhhofmlefaaaaDoor
open Go.RowKit Go.PlainAid

def wBoxes (w : World) (u v : Value) : World := (w.alloc (.cells #[u] 24)).alloc (.cells #[v] 24)
theorem boxes_cells (w : World) (u v : Value) : (wBoxes w u v).cell? ⟨w.heap.size, 0, none⟩ = some u ∧ (wBoxes w u v).cell? ⟨w.heap.size + 1, 0, none⟩ = some v := by
  have h1 : (w.alloc (.cells #[u] 24)).heap[w.heap.size]? = some (.cells #[u] 24) := heap_alloc_new w _
  have h2 : (wBoxes w u v).heap[(w.alloc (.cells #[u] 24)).heap.size]? = some (.cells #[v] 24) := heap_alloc_new _ _
  have h3 : (wBoxes w u v).heap[w.heap.size]? = some (.cells #[u] 24) := by
    unfold wBoxes
    rw [Lib.alloc_old _ _ _ (by simp)]; exact h1
  rw [World.size_alloc] at h2
  exact ⟨by rw [Lib.cell_of_heap h3]; rfl, by rw [Lib.cell_of_heap h2]; rfl⟩
theorem boxes_below (w : World) (u v : Value) : Below w.heap.size w (wBoxes w u v) := ((Below.refl _ _).alloc (Nat.le_refl _) _).alloc (by simp) _
theorem boxes_size (w : World) (u v : Value) : (wBoxes w u v).heap.size = w.heap.size + 2 := by unfold wBoxes; rw [World.size_alloc, World.size_alloc]

set_option maxRecDepth 100000 in
set_option maxHeartbeats 4000000 in
theorem shared_s (ao bo : Option Addr) (n cap m dap : Nat) (l q : List Pr) (w : World) (hl : PairsAt w ao n cap l) (hq : PairsAt w bo m dap q) (hn : n ≤ 1000) (hm : m ≤ 1000) :
    Calls Tryd.prog 54 #[.slice ao n cap, .slice bo m dap] w fun e w' => ∃ k : Nat, e = .returned (.int .i64 k) ∧ ComP l q k ∧ Below w.heap.size w w' := by
  have HL := Lib.hid hl
  have HQ := Lib.hid hq
  have hl1 := hl.1
  have hq1 := hq.1
  clear hl hq
  have HB := Lib.hid (boxes_cells w (.slice ao n cap) (.slice bo m dap))
  have HBB := Lib.hid (boxes_below w (.slice ao n cap) (.slice bo m dap))
  have HBS := Lib.hid (boxes_size w (.slice ao n cap) (.slice bo m dap))
  go_enter Tryd.func54, Tryd.ntmps54
  go_wp2
  change Code.wp _ _ _ _ (wBoxes w (.slice ao n cap) (.slice bo m dap))
  generalize wBoxes w (.slice ao n cap) (.slice bo m dap) = w1 at HB HBB HBS ⊢
  go_loopw [6] (fun i wr => ∃ k : Nat, k ≤ n ∧ i = .int .i64 k ∧ Hid (∀ j, j < k → sameB l q j = true) ∧ Below w1.heap.size w1 wr) (fun i _ => n - (intOf i).toNat)
  case atStart => exact ⟨0, Nat.zero_le _, rfl, Lib.hid (fun j hj => absurd hj (Nat.not_lt_zero _)), Below.refl _ _⟩
  case round =>
    obtain ⟨k, hk, rfl, HA, hbel⟩ := hrel
    have hx : wr.cell? ⟨w.heap.size, 0, none⟩ = some (.slice ao n cap) := by
      rw [hbel.cell (p := ⟨w.heap.size, 0, none⟩) (by show w.heap.size < _; rw [HBS.out]; omega)]; exact HB.out.1
    have hy : wr.cell? ⟨w.heap.size + 1, 0, none⟩ = some (.slice bo m dap) := by
      rw [hbel.cell (p := ⟨w.heap.size + 1, 0, none⟩) (by show w.heap.size + 1 < _; rw [HBS.out]; omega)]; exact HB.out.2
    have L0 := below_next HBB.out hbel
    have HC := Lib.hid (same_s w.heap.size (w.heap.size + 1) ao bo n cap m dap l q k wr hx hy (HL.out.below L0) (HQ.out.below L0) (by omega) hn hm)
    clear hx hy
    cases c : sameB l q k
    · rw [c] at HC
      have HK := Lib.hid (show ComP l q k from ⟨HA.out, c⟩)
      clear c
      go_wp2_with fail
      refine HC.out.mono ?_
      rintro e w2 ⟨rfl, hb2⟩
      go_wp2
      go_ret
      exact ⟨k, rfl, HK.out, below_next L0 hb2⟩
    · rw [c] at HC
      have HN := Lib.hid (show ∀ j, j < k + 1 → sameB l q j = true from fun j hj => if e : j = k then by rw [e]; exact c else HA.out j (by omega))
      have hkn : k + 1 ≤ n := by have := (sameB_iff _ _ _).1 c; omega
      clear c
      go_wp2_with fail
      refine HC.out.mono ?_
      rintro e w2 ⟨rfl, hb2⟩
      go_wp2
      go_roundw
      case rel => exact ⟨k + 1, hkn, by go_num, HN, below_next hbel hb2⟩
      case measure => simp [intOf]; omega

end Go.Proofs.YtdjhhofmlefaaaaDoor
