/-
  Plain functions for reading pairs, and the contract of codec.readPair. Condition: at most 1000000 bytes.
-/
import Derived.Test.YtelddbgnhfhkiabDoorCodecPairs
import Derived.Handy
set_option linter.unusedVariables false
set_option linter.unusedSimpArgs false
set_option linter.unnecessarySimpa false
namespace Go.Proofs.YtelddbgnhfhkiabDoor
open Go.RowKit Go.PlainAid

/-- a pair of strings in a block of its own -/
def PairCell (B : Nat) (x y : ByteArray) (w : World) : Prop :=
  w.cell? ⟨B, 0, none⟩ = some (.string x) ∧ w.cell? ⟨B, 1, none⟩ = some (.string y) ∧ w.frozen? ⟨B, 0, none⟩ = false ∧ w.frozen? ⟨B, 1, none⟩ = false
theorem pairCell_new (w : World) (x y : ByteArray) : PairCell w.heap.size x y (w.alloc (.cells #[.string x, .string y] 49)) := by
  have h : (w.alloc (.cells #[.string x, .string y] 49)).heap[w.heap.size]? = some (.cells #[.string x, .string y] 49 (0, 0)) := heap_alloc_new w _
  refine ⟨?_, ?_, ?_, ?_⟩
  · rw [Lib.cell_of_heap h]; rfl
  · rw [Lib.cell_of_heap h]; rfl
  · exact Lib.frozen_of_heap h 0
  · exact Lib.frozen_of_heap h 1
theorem PairCell.below {B : Nat} {x y : ByteArray} {w w' : World} (h : PairCell B x y w) {b : Nat} (hb : Below b w w') (hB : B < b) : PairCell B x y w' :=
  ⟨(hb.cell (p := ⟨B, 0, none⟩) hB).trans h.1, (hb.cell (p := ⟨B, 1, none⟩) hB).trans h.2.1, (hb.frozen (p := ⟨B, 0, none⟩) hB).trans h.2.2.1, (hb.frozen (p := ⟨B, 1, none⟩) hB).trans h.2.2.2⟩

theorem PairCell.put {B : Nat} {x y x' y' : ByteArray} {w : World} (h : PairCell B x y w) : PairCell B x' y' ((w.setCell ⟨B, 0, none⟩ (.string x')).setCell ⟨B, 1, none⟩ (.string y')) := by
  obtain ⟨c0, c1, f0, f1⟩ := h
  refine ⟨?_, ?_, ?_, ?_⟩
  · simp [go_sem, c0, c1]
  · simp [go_sem, c0, c1]
  · simp [go_sem, f0, f1]
  · simp [go_sem, f0, f1]
set_option maxRecDepth 100000 in
theorem readPair_results (tmps : Array Value) (B : Nat) (x y : ByteArray) (w : World) (hp : tmps.getD 2 undef = .pointer (some ⟨B, 0, none⟩)) (h : PairCell B x y w) :
    (results Tryd.f27 tmps).run Tryd.prog w = .ok (.tuple #[.agg #[.string x, .string y], tmps.getD 3 undef]) w := by
  obtain ⟨c0, c1, f0, f1⟩ := h
  rw [results_cell_tmp rfl, hp]
  simp [go_sem, c0, c1]

/-- the pair with the text form s -/
def rpO (s : ByteArray) : Option Pr := if cutOk s ⟨#[61]⟩ then (match unesc (cutBef s ⟨#[61]⟩).data.toList with
  | some x => (match unesc (cutAft s ⟨#[61]⟩).data.toList with
    | some y => some (ofL x, ofL y)
    | none => none)
  | none => none) else none

set_option maxRecDepth 100000 in
set_option maxHeartbeats 4000000 in
theorem readPair_no (s : ByteArray) (w : World) (hs : s.size ≤ 1000000) (hm : MaxOk w) (hr : rpO s = none) :
    Calls Tryd.prog 27 #[.string s] w fun e w' => e = .returned (.tuple #[.agg #[.string ⟨#[]⟩, .string ⟨#[]⟩], .int .i64 4]) ∧ Below w.heap.size w w' := by
  have hmw := hm.lt
  have hb0 : Below w.heap.size w (w.alloc (.cells #[.string ⟨#[]⟩, .string ⟨#[]⟩] 49)) := (Below.refl _ _).alloc (Nat.le_refl _) _
  have hbs : (cutBef s ⟨#[61]⟩).size ≤ s.size ∧ (cutAft s ⟨#[61]⟩).size ≤ s.size := by
    refine ⟨?_, cutAft_size _ _⟩
    rcases cut_one s 61 with h | h
    · exact h.2.2.2.1
    · rw [h.2.2.1]; exact Nat.le_refl _
  have HC0 := Lib.hid (pairCell_new w ⟨#[]⟩ ⟨#[]⟩)
  unfold rpO at hr
  cases hok : cutOk s ⟨#[61]⟩
  · clear hr
    go_enter Tryd.func27, Tryd.ntmps27
    go_wp2_with (go_at_call 26; refine (cut_b s 61 _ (by omega) (hm.below hb0 hmw)).mono ?_; rintro e w1 ⟨rfl, hb1⟩; rw [hok]; obtain ⟨c0, c1, f0, f1⟩ := HC0.out.below hb1 (by simp))
    refine bodyPost_ret (readPair_results _ w.heap.size ⟨#[]⟩ ⟨#[]⟩ _ rfl (PairCell.put ⟨c0, c1, f0, f1⟩)) rfl ?_
    exact ⟨rfl, ((hb0.trans (hb1.mono hb0.size)).setCell (p := ⟨w.heap.size, 0, none⟩) (Nat.le_refl _) _).setCell (p := ⟨w.heap.size, 1, none⟩) (Nat.le_refl _) _⟩
  · rw [hok, if_pos rfl] at hr
    cases h1 : unesc (cutBef s ⟨#[61]⟩).data.toList with
    | none =>
      clear hr
      have H1 := Lib.hid h1; clear h1
      go_enter Tryd.func27, Tryd.ntmps27
      go_wp2_with (first
        | (go_at_call 26; refine (cut_b s 61 _ (by omega) (hm.below hb0 hmw)).mono ?_; rintro e w1 ⟨rfl, hb1⟩; rw [hok])
        | (go_at_call 24; refine (unescape_no (cutBef s ⟨#[61]⟩) _ (by omega) H1.out).mono ?_; rintro e w2 ⟨rfl, hb2⟩; obtain ⟨c0, c1, f0, f1⟩ := (HC0.out.below hb1 (by simp)).below hb2 (Nat.lt_of_lt_of_le (by simp) hb1.size)))
      refine bodyPost_ret (readPair_results _ w.heap.size ⟨#[]⟩ ⟨#[]⟩ _ rfl (PairCell.put ⟨c0, c1, f0, f1⟩)) rfl ?_
      have hb12 := hb0.trans ((hb1.mono hb0.size).trans (hb2.mono (Nat.le_trans hb0.size hb1.size)))
      exact ⟨rfl, (hb12.setCell (p := ⟨w.heap.size, 0, none⟩) (Nat.le_refl _) _).setCell (p := ⟨w.heap.size, 1, none⟩) (Nat.le_refl _) _⟩
    | some x =>
      cases h2 : unesc (cutAft s ⟨#[61]⟩).data.toList with
      | none =>
        clear hr
        have H1 := Lib.hid h1; clear h1
        have H2 := Lib.hid h2; clear h2
        go_enter Tryd.func27, Tryd.ntmps27
        go_wp2_with fail
        refine (cut_b s 61 _ (by omega) (hm.below hb0 hmw)).mono ?_
        rintro e w1 ⟨rfl, hb1⟩
        rw [hok]
        go_wp2_with fail
        refine (unescape_ok (cutBef s ⟨#[61]⟩) x _ (by omega) H1.out).mono ?_
        rintro e w2 ⟨rfl, hb2⟩
        go_wp2_with fail
        refine (unescape_no (cutAft s ⟨#[61]⟩) _ (by omega) H2.out).mono ?_
        rintro e w3 ⟨rfl, hb3⟩
        obtain ⟨c0, c1, f0, f1⟩ := ((HC0.out.below hb1 (by simp)).below hb2 (Nat.lt_of_lt_of_le (by simp) hb1.size)).below hb3 (Nat.lt_of_lt_of_le (by simp) (Nat.le_trans hb1.size hb2.size))
        go_wp2
        refine bodyPost_ret (readPair_results _ w.heap.size ⟨#[]⟩ ⟨#[]⟩ _ rfl (PairCell.put ⟨c0, c1, f0, f1⟩)) rfl ?_
        have hb12 := hb0.trans ((hb1.mono hb0.size).trans ((hb2.mono (Nat.le_trans hb0.size hb1.size)).trans (hb3.mono (Nat.le_trans hb0.size (Nat.le_trans hb1.size hb2.size)))))
        exact ⟨rfl, (hb12.setCell (p := ⟨w.heap.size, 0, none⟩) (Nat.le_refl _) _).setCell (p := ⟨w.heap.size, 1, none⟩) (Nat.le_refl _) _⟩
      | some y => rw [h1, h2] at hr; cases hr

set_option maxRecDepth 100000 in
set_option maxHeartbeats 4000000 in
theorem readPair_ok (s x y : ByteArray) (w : World) (hs : s.size ≤ 1000000) (hm : MaxOk w) (hr : rpO s = some (x, y)) :
    Calls Tryd.prog 27 #[.string s] w fun e w' => e = .returned (.tuple #[.agg #[.string x, .string y], .int .i64 0]) ∧ Below w.heap.size w w' := by
  have hmw := hm.lt
  have hb0 : Below w.heap.size w (w.alloc (.cells #[.string ⟨#[]⟩, .string ⟨#[]⟩] 49)) := (Below.refl _ _).alloc (Nat.le_refl _) _
  have hbs : (cutBef s ⟨#[61]⟩).size ≤ s.size ∧ (cutAft s ⟨#[61]⟩).size ≤ s.size := by
    refine ⟨?_, cutAft_size _ _⟩
    rcases cut_one s 61 with h | h
    · exact h.2.2.2.1
    · rw [h.2.2.1]; exact Nat.le_refl _
  have HC0 := Lib.hid (pairCell_new w ⟨#[]⟩ ⟨#[]⟩)
  unfold rpO at hr
  cases hok : cutOk s ⟨#[61]⟩
  · rw [hok] at hr; cases hr
  · rw [hok, if_pos rfl] at hr
    cases h1 : unesc (cutBef s ⟨#[61]⟩).data.toList with
    | none => rw [h1] at hr; cases hr
    | some xl =>
      cases h2 : unesc (cutAft s ⟨#[61]⟩).data.toList with
      | none => rw [h1, h2] at hr; cases hr
      | some yl =>
        rw [h1, h2] at hr
        simp only [Option.some.injEq, Prod.mk.injEq] at hr
        obtain ⟨rfl, rfl⟩ := hr
        have H1 := Lib.hid h1; clear h1
        have H2 := Lib.hid h2; clear h2
        go_enter Tryd.func27, Tryd.ntmps27
        go_wp2_with fail
        refine (cut_b s 61 _ (by omega) (hm.below hb0 hmw)).mono ?_
        rintro e w1 ⟨rfl, hb1⟩
        rw [hok]
        go_wp2_with fail
        refine (unescape_ok (cutBef s ⟨#[61]⟩) xl _ (by omega) H1.out).mono ?_
        rintro e w2 ⟨rfl, hb2⟩
        go_wp2_with fail
        refine (unescape_ok (cutAft s ⟨#[61]⟩) yl _ (by omega) H2.out).mono ?_
        rintro e w3 ⟨rfl, hb3⟩
        obtain ⟨c0, c1, f0, f1⟩ := ((HC0.out.below hb1 (by simp)).below hb2 (Nat.lt_of_lt_of_le (by simp) hb1.size)).below hb3 (Nat.lt_of_lt_of_le (by simp) (Nat.le_trans hb1.size hb2.size))
        go_wp2
        refine bodyPost_ret (readPair_results _ w.heap.size (ofL xl) (ofL yl) _ rfl (PairCell.put ⟨c0, c1, f0, f1⟩)) rfl ?_
        have hb12 := hb0.trans ((hb1.mono hb0.size).trans ((hb2.mono (Nat.le_trans hb0.size hb1.size)).trans (hb3.mono (Nat.le_trans hb0.size (Nat.le_trans hb1.size hb2.size)))))
        exact ⟨rfl, (hb12.setCell (p := ⟨w.heap.size, 0, none⟩) (Nat.le_refl _) _).setCell (p := ⟨w.heap.size, 1, none⟩) (Nat.le_refl _) _⟩

end Go.Proofs.YtelddbgnhfhkiabDoor
