/-
  The contract of strings.Builder's WriteString as this program's translation has it, at a builder that the call itself made. Condition: at most 2^46 bytes.
-/
import Derived.Test.YtafecnaeoeanmaaDoorCodecBuild
set_option maxRecDepth 100000
set_option linter.unusedVariables false
set_option linter.unusedSimpArgs false
set_option linter.unnecessarySimpa false
namespace Go.Proofs.YtafecnaeoeanmaaDoor
open Go.RowKit Go.PlainAid

theorem strCells_b (s : ByteArray) : Lib.strCells s = bcells s.data.toList := rfl

set_option maxHeartbeats 2000000 in
set_option maxRecDepth 100000 in
theorem writeString_cells (B b : Nat) (bs : List Value) (s : ByteArray) (w : World) (h : Lib.IsBuilder 74 5 B b bs w) (hlen : bs.length + s.size ≤ 140737488355328) (hBw : B ≤ w.heap.size) :
    Calls Tryd.prog 51 #[.pointer (some ⟨b, 0, none⟩), .string s] w fun e w' => e = .returned (.tuple #[.int .i64 s.size, .nilIface]) ∧ (Lib.BuilderAt 74 5 B b (.pointer (some ⟨b, 0, none⟩)) (bs ++ Lib.strCells s) w' ∧ Below B w w') := by
  obtain ⟨i0, hi, hz0, hz1, hz2⟩ := info_parts info5
  go_enter Tryd.func51, Tryd.ntmps51
  go_wp2_with (go_at_call 59; refine (check_any B b bs _ h).mono ?_)
  rintro e w1 ⟨rfl, h1, hb1⟩
  obtain ⟨hB, v, hbk, hown, hne⟩ := h1
  have c1 : w1.cell? ⟨b, 1, none⟩ = some v := by rw [Lib.cell_of_heap hbk]; rfl
  have HZ := hb1.size
  have hlt : b < w1.heap.size := by
    rcases Nat.lt_or_ge b w1.heap.size with h' | h'
    · exact h'
    · simp [Array.getElem?_eq_none h'] at hbk
  go_wp2_with (at_builtin; refine Lib.wpList_append_own_string w1 ?_ (.tmp 12) (.tmp 13) 46 9 ?_ B 5 i0 Tryd.underlying46 Tryd.underlying9 hi hz0 hz1 hz2 v bs.length bs ?_ hown s ?_ ?_ ?_ ?_ ?_; exact rfl; exact rfl; exact rfl; exact rfl; (unfold maxLen; omega); omega; omega)
  intro v' w2 hown' hgrow hnil
  have hb2 : w2.heap[b]? = some (.cells #[.pointer (some ⟨b, 0, none⟩), v] 74 (0, 0)) := by
    rw [hgrow.block b hlt (fun e => hne e.symm)]
    exact hbk
  have d1 : w2.cell? ⟨b, 1, none⟩ = some v := by rw [Lib.cell_of_heap hb2]; rfl
  have f1 : w2.frozen? ⟨b, 1, none⟩ = false := Lib.frozen_of_heap hb2 1
  have hlen' : (bs ++ Lib.strCells s).length = bs.length + s.size := by simp [Lib.strCells_length]
  have hbel : Below B w w2 := hb1.grown hgrow (by omega) (fun k hk => (hown.lt k hk).1)
  have hcase : v' = .slice none 0 0 ∨ ∃ g n cap, v' = .slice (some ⟨g, 0, none⟩) n cap := by
    rcases hown'.2 with ⟨h, h0⟩ | ⟨g, cap, cur, hv, _⟩
    · exact .inl h
    · exact .inr ⟨g, _, cap, hv⟩
  rcases hcase with rfl | ⟨g, n, cap, rfl⟩
  · go_wp2
    go_ret2
    refine ⟨rfl, ?_, hbel.setCell (p := ⟨b, 1, none⟩) hB _⟩
    exact Lib.BuilderAt.put (T := 74) (e := 5) hB hb2 (bs' := bs ++ Lib.strCells s) (by rw [hlen']; exact hown') (by decide)
  · go_wp2
    go_ret2
    refine ⟨rfl, ?_, hbel.setCell (p := ⟨b, 1, none⟩) hB _⟩
    exact Lib.BuilderAt.put (T := 74) (e := 5) hB hb2 (bs' := bs ++ Lib.strCells s) (by rw [hlen']; exact hown') (by decide)

/-- WriteString at a builder that holds the bytes l -/
theorem writeString_s (B b : Nat) (l : List UInt8) (s : ByteArray) (w : World) (h : Bld B b l w) (hlen : l.length + s.size ≤ 100000000000) (hBw : B ≤ w.heap.size) :
    Calls Tryd.prog 51 #[.pointer (some ⟨b, 0, none⟩), .string s] w fun e w' => e = .returned (.tuple #[.int .i64 s.size, .nilIface]) ∧ Bld B b (l ++ s.data.toList) w' ∧ Below B w w' := by
  refine (writeString_cells B b (bcells l) s w h (by rw [bcells_length]; omega) hBw).mono fun e w' h => ⟨h.1, ?_, h.2.2⟩
  unfold Bld
  rw [bcells_append, ← strCells_b]
  exact .inr h.2.1

end Go.Proofs.YtafecnaeoeanmaaDoor
