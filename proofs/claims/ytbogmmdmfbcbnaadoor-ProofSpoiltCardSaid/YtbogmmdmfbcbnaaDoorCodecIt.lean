/-
  WriteByte once more, telling that the iterators of strings stand as they did. Condition: at most 2^46 bytes.
-/
import Derived.Test.YtbogmmdmfbcbnaaDoorCodecBuild
import Derived.Lib.OthersKept
set_option maxRecDepth 100000
set_option linter.unusedVariables false
set_option linter.unusedSimpArgs false
set_option linter.unnecessarySimpa false
namespace Go.Proofs.YtbogmmdmfbcbnaaDoor
open Go.RowKit Go.PlainAid

/-- the iterators stand as they did -/
def ItKept (w w' : World) : Prop := ∀ (k : Nat) (s : ByteArray) (p : Nat), w.heap[k]? = some (.stringIter s p) → w'.heap[k]? = some (.stringIter s p)
theorem it_set {w : World} {b j : Nat} {v : Value} {cs : Array Value} {T : TypeId} {fr : Nat × Nat} (hb : w.heap[b]? = some (.cells cs T fr)) : ItKept w (w.setCell ⟨b, j, none⟩ v) := by
  intro k s p h
  rw [Below.heap_setCell _ _ _ _ (fun e => by subst e; rw [hb] at h; cases h)]
  exact h
theorem builder_heap {B b : Nat} {p : Value} {bs : List Value} {w : World} (h : Lib.BuilderAt 50 5 B b p bs w) : ∃ cs, w.heap[b]? = some (.cells cs 50 (0, 0)) := by
  obtain ⟨_, v, hbk, _⟩ := h
  exact ⟨_, hbk⟩

theorem check_it (B b : Nat) (bs : List Value) (w : World) (h : Lib.IsBuilder 50 5 B b bs w) :
    Calls Tryd.prog 56 #[.pointer (some ⟨b, 0, none⟩)] w fun e w' => e = .returned (.tuple #[]) ∧ (Lib.BuilderAt 50 5 B b (.pointer (some ⟨b, 0, none⟩)) bs w' ∧ Below B w w' ∧ ItKept w w') := by
  rcases h with h | h
  · refine (check_fresh b w h.cell0 h.shape h.frozen0).mono ?_
    rintro e w' ⟨rfl, rfl⟩
    obtain ⟨cs, hc⟩ := builder_heap h
    exact ⟨rfl, h.used _, (Below.refl B w).setCell (p := ⟨b, 0, none⟩) h.1 _, it_set hc⟩
  · refine (check_used b w h.cell0).mono ?_
    rintro e w' ⟨rfl, rfl⟩
    exact ⟨rfl, h, Below.refl B _, fun _ _ _ h => h⟩

theorem own_not_iter {w : World} {B e size n : Nat} {v : Value} {xs : List Value} {k : Nat} {s : ByteArray} {pos : Nat} (h : w.ownsRow B e size v n xs) (hk : w.heap[k]? = some (.stringIter s pos)) : some k ≠ v.ownBlock := by
  rcases h.2 with ⟨rfl, _⟩ | ⟨g, cap, cur, rfl, hb, hg, rest⟩
  · simp [Value.ownBlock]
  · intro e
    simp only [Value.ownBlock, Option.some.injEq] at e
    subst e
    rw [hk] at hg
    cases hg

set_option maxHeartbeats 2000000 in
set_option maxRecDepth 100000 in
theorem writeByte_itc (B b : Nat) (bs : List Value) (c : Int) (w : World) (h : Lib.IsBuilder 50 5 B b bs w) (hlen : bs.length + 1 ≤ 140737488355328) (hBw : B ≤ w.heap.size) :
    Calls Tryd.prog 34 #[.pointer (some ⟨b, 0, none⟩), .int .u8 c] w fun e w' => e = .returned .nilIface ∧ (Lib.BuilderAt 50 5 B b (.pointer (some ⟨b, 0, none⟩)) (bs ++ [.int .u8 c]) w' ∧ Below B w w' ∧ ItKept w w') := by
  go_enter Tryd.func34, Tryd.ntmps34
  go_wp2_with (go_at_call 56; refine (check_it B b bs _ h).mono ?_)
  rintro e w1 ⟨rfl, h1, hb1, hit1⟩
  obtain ⟨hB, v, hbk, hown, hne⟩ := h1
  have c1 : w1.cell? ⟨b, 1, none⟩ = some v := by rw [Lib.cell_of_heap hbk]; rfl
  have HZ := hb1.size
  have HI := Lib.hid hit1; clear hit1
  go_wp2_with (at_builtin; refine push_byte_g w1 hown (.tmp 11) (.tmp 13) _ ?_ ?_ ?_ ?_ ?_ ?_ ?_; exact rfl; exact rfl; exact rfl; exact rfl; omega; omega)
  intro v' w2 hown' hgrow
  have hlt : b < w1.heap.size := by
    rcases Nat.lt_or_ge b w1.heap.size with h' | h'
    · exact h'
    · simp [Array.getElem?_eq_none h'] at hbk
  have hb2 : w2.heap[b]? = some (.cells #[.pointer (some ⟨b, 0, none⟩), v] 50 (0, 0)) := by
    rw [hgrow.block b (by simp; omega) (fun e => hne e.symm), Lib.alloc_old w1 _ b hlt]
    exact hbk
  have HI2 := Lib.hid (show ItKept w w2 by
    intro k s p hk
    have hk1 := HI.out k s p hk
    have hkl : k < w1.heap.size := (Array.getElem?_eq_some_iff.1 hk1).1
    rw [hgrow.block k (by simp; omega) (own_not_iter hown hk1), Lib.alloc_old w1 _ k hkl]
    exact hk1)
  have d1 : w2.cell? ⟨b, 1, none⟩ = some v := by rw [Lib.cell_of_heap hb2]; rfl
  have f1 : w2.frozen? ⟨b, 1, none⟩ = false := Lib.frozen_of_heap hb2 1
  obtain ⟨g, cap, rfl⟩ : ∃ g cap, v' = .slice (some ⟨g, 0, none⟩) (bs.length + 1) cap := by
    rcases hown'.2 with ⟨_, h0⟩ | ⟨g, cap, cur, hv, _⟩
    · omega
    · exact ⟨g, cap, hv⟩
  go_wp2
  go_ret
  refine ⟨rfl, ?_, ?_, ?_⟩
  · exact Lib.BuilderAt.put (T := 50) (e := 5) hB hb2 (bs' := bs ++ [.int .u8 c]) (by simpa using hown') (by decide)
  · exact ((hb1.alloc (by omega) _).grown hgrow (by simp; omega) (fun k hk => (hown.lt k hk).1)).setCell (p := ⟨b, 1, none⟩) hB _
  · exact fun k s p hk => it_set hb2 k s p (HI2.out k s p hk)

theorem writeByte_it (B b : Nat) (l : List UInt8) (c : UInt8) (x : Int) (w : World) (h : Bld B b l w) (hx : x = (c.toNat : Int)) (hlen : l.length ≤ 100000000000) (hBw : B ≤ w.heap.size) :
    Calls Tryd.prog 34 #[.pointer (some ⟨b, 0, none⟩), .int .u8 x] w fun e w' => e = .returned .nilIface ∧ Bld B b (l ++ [c]) w' ∧ Below B w w' ∧ ItKept w w' := by
  subst hx
  refine (writeByte_itc B b (bcells l) c.toNat w h (by rw [bcells_length]; omega) hBw).mono fun e w' h => ⟨h.1, ?_, h.2.2⟩
  unfold Bld
  rw [bcells_append]
  exact .inr h.2.1
/-- the builder behind a step of an iterator -/
theorem Bld.iterAt {B b : Nat} {l : List UInt8} {w : World} {k : Nat} {s : ByteArray} {p p' : Nat} (h : Bld B b l w) (hk : w.heap[k]? = some (.stringIter s p)) : Bld B b l (w.iterAt k s p') := by
  have one : ∀ q, Lib.BuilderAt 50 5 B b q (bcells l) w → Lib.BuilderAt 50 5 B b q (bcells l) (w.iterAt k s p') := fun q h => by
    obtain ⟨hB, v, hbk, hown, hne⟩ := h
    refine ⟨hB, v, ?_, ?_, hne⟩
    · rw [Lib.iterAt_other _ _ _ _ _ (fun e => by subst e; rw [hk] at hbk; cases hbk)]; exact hbk
    · refine ⟨hown.1, ?_⟩
      rcases hown.2 with h0 | ⟨g, cap, cur, hv, hb, hg, rest⟩
      · exact .inl h0
      · refine .inr ⟨g, cap, cur, hv, hb, ?_, rest⟩
        rw [Lib.iterAt_other _ _ _ _ _ (fun e => by subst e; rw [hk] at hg; cases hg)]
        exact hg
  rcases h with h | h
  · exact .inl (one _ h)
  · exact .inr (one _ h)
theorem below_iterAt {B : Nat} {w0 w : World} {k : Nat} {s : ByteArray} {p : Nat} (h : Below B w0 w) (hk : B ≤ k) : Below B w0 (w.iterAt k s p) :=
  ⟨h.os, h.tape, h.output, by simp [World.iterAt]; exact h.size, fun j hj => by
    rw [Lib.iterAt_other _ _ _ _ _ (by omega)]; exact h.block j hj⟩

end Go.Proofs.YtbogmmdmfbcbnaaDoor
