/-
  The contract of the law's live, over the contracts of all of codec. Condition: the library's own variables lie as the program's text lays them.
-/
import Derived.Test.YtelddbgnhfhkiabDoorCodecJoin
import Derived.Test.YtelddbgnhfhkiabDoorCodecRPs
import Derived.Test.YtelddbgnhfhkiabDoorCodecInt
import Derived.Test.YtelddbgnhfhkiabDoorCodecR64
set_option linter.unusedVariables false
set_option linter.unusedSimpArgs false
set_option linter.unnecessarySimpa false
namespace Go.Proofs.YtelddbgnhfhkiabDoor
open Go.RowKit Go.PlainAid

def COk (w : World) : Prop := MaxOk w ∧ IntOk w
theorem COk.below {w w' : World} (h : COk w) (hb : Below w.heap.size w w') : COk w' := ⟨h.1.below hb h.1.lt, h.2.below hb⟩

theorem strs_own {w : World} {base n : Nat} {v : Value} {l : List ByteArray} (h : w.ownsRow base 9 1 v n (scells l)) (hn : l.length = n) : ∃ ao cap, v = .slice ao n cap ∧ StrsAt w ao n cap l := by
  have h0 := h
  rcases h.2 with ⟨rfl, rfl⟩ | ⟨g, cap, cur, rfl, hb, hg, hc, hm, hcs, ht⟩
  · exact ⟨none, 0, rfl, hn, Nat.le_refl _, by unfold maxLen; omega, fun h => absurd h (Nat.lt_irrefl _)⟩
  · refine ⟨_, cap, rfl, hn, hc, hm, fun h1 => ⟨g, 0, rfl, ?_, fun j hj => ?_⟩⟩
    · rcases Nat.lt_or_ge g w.heap.size with h' | h'
      · exact h'
      · simp [Array.getElem?_eq_none h'] at hg
    · have := h0.cells (g := g) rfl j (.string (partAt l j)) (by
        unfold scells partAt
        rw [List.getElem?_map, List.getD_eq_getElem?_getD, List.getElem?_eq_getElem hj]; rfl)
      rw [Go.WideShapes.add_plain] at this
      exact this
theorem pcells_at : ∀ (l : List Pr) (j : Nat), j < l.length → (pcells l)[j * 2]? = some (.string (prAt l j).1) ∧ (pcells l)[j * 2 + 1]? = some (.string (prAt l j).2)
  | [], j, h => by simp at h
  | p :: r, 0, h => ⟨rfl, rfl⟩
  | p :: r, j + 1, h => by
    have ih := pcells_at r j (by simp at h; omega)
    have e1 : (j + 1) * 2 = j * 2 + 2 := by omega
    rw [e1]
    exact ih
theorem pairs_own {w : World} {base n : Nat} {v : Value} {l : List Pr} (h : w.ownsRow base 49 2 v n (pcells l)) (hn : l.length = n) : ∃ ao cap, v = .slice ao n cap ∧ PairsAt w ao n cap l := by
  have h0 := h
  rcases h.2 with ⟨rfl, rfl⟩ | ⟨g, cap, cur, rfl, hb, hg, hc, hm, hcs, ht⟩
  · exact ⟨none, 0, rfl, hn, Nat.le_refl _, by unfold maxLen; omega, fun h => absurd h (Nat.lt_irrefl _)⟩
  · refine ⟨_, cap, rfl, hn, hc, hm, fun h1 => ⟨g, 0, rfl, ?_, fun j hj => ?_⟩⟩
    · rcases Nat.lt_or_ge g w.heap.size with h' | h'
      · exact h'
      · simp [Array.getElem?_eq_none h'] at hg
    · obtain ⟨p1, p2⟩ := pcells_at l j hj
      have h1 := h0.cells (g := g) rfl _ _ p1
      have h2 := h0.cells (g := g) rfl _ _ p2
      rw [Go.WideShapes.add_plain] at h1 h2
      exact ⟨h1, by rw [Nat.add_assoc]; exact h2⟩

theorem split_at (s : ByteArray) (l : List ByteArray) (n : Nat) (e0 : Int) (w : World) (hs : s.size ≤ 1000000) (hm : MaxOk w) (h : splS s = l ∧ splE s = e0 ∧ l.length = n) :
    Calls Tryd.prog 22 #[.string s] w fun e w' => (∃ ao cap, e = .returned (.tuple #[.slice ao n cap, .int .i64 e0]) ∧ StrsAt w' ao n cap l) ∧ Below w.heap.size w w' := by
  obtain ⟨rfl, rfl, rfl⟩ := h
  refine (split_s s w hs hm).mono fun e w' ⟨v, h1, h2, h3⟩ => ?_
  obtain ⟨ao, cap, rfl, h4⟩ := strs_own h2 rfl
  exact ⟨⟨ao, cap, h1, h4⟩, h3⟩
theorem readPairs_at (s : ByteArray) (l : List Pr) (n : Nat) (e0 : Int) (w : World) (hs : s.size ≤ 1000000) (hm : MaxOk w) (h : rpsS s = l ∧ rpsE s = e0 ∧ l.length = n) :
    Calls Tryd.prog 8 #[.string s] w fun e w' => (∃ ao cap, e = .returned (.tuple #[.slice ao n cap, .int .i64 e0]) ∧ PairsAt w' ao n cap l) ∧ Below w.heap.size w w' := by
  obtain ⟨rfl, rfl, rfl⟩ := h
  refine (readPairs_s s w hs hm).mono fun e w' ⟨v, h1, h2, h3⟩ => ?_
  obtain ⟨ao, cap, rfl, h4⟩ := pairs_own h2 rfl
  exact ⟨⟨ao, cap, h1, h4⟩, h3⟩
theorem unescape_k (s r : ByteArray) (e0 : Int) (w : World) (hs : s.size ≤ 1000000000) (h : unS s = r ∧ unE s = e0) :
    Calls Tryd.prog 24 #[.string s] w fun e w' => e = .returned (.tuple #[.string r, .int .i64 e0]) ∧ Below w.heap.size w w' := by
  obtain ⟨rfl, rfl⟩ := h; exact unescape_s s w hs
theorem readInt_k (s : ByteArray) (n e0 : Int) (w : World) (hs : s.size ≤ 1000000000) (ho : IntOk w) (h : readI s.data.toList = (n, e0)) :
    Calls Tryd.prog 12 #[.string s] w fun e w' => e = .returned (.tuple #[.int .i64 n, .int .i64 e0]) ∧ Below w.heap.size w w' := by
  have := readInt_s s w hs ho; rw [h] at this; exact this
theorem readBase64_k (s r : ByteArray) (e0 : Int) (w : World) (hs : s.size ≤ 1000000000) (hh : ∀ j, j < s.size → bt s j < 128) (h : r64S s = r ∧ r64E s = e0) :
    Calls Tryd.prog 17 #[.string s] w fun e w' => e = .returned (.tuple #[.string r, .int .i64 e0]) ∧ Below w.heap.size w w' := by
  obtain ⟨rfl, rfl⟩ := h; exact readBase64_s s w hs (.inl hh)
theorem escape_k (s r : ByteArray) (w : World) (hs : s.size ≤ 1000000000) (h : (⟨(escL s.data.toList).toArray⟩ : ByteArray) = r) :
    Calls Tryd.prog 25 #[.string s] w fun e w' => e = .returned (.string r) ∧ Below w.heap.size w w' := by
  subst h; exact escape_any s w hs
theorem join_k (ao : Option Addr) (n cap : Nat) (ps : List ByteArray) (r : ByteArray) (w : World) (h : StrsAt w ao n cap ps) (hn : ps.length ≤ 1000) (hp : ps.all (fun p => decide (p.size ≤ 1000000)) = true) (hr : joinS ps = r) :
    Calls Tryd.prog 21 #[.slice ao n cap] w fun e w' => e = .returned (.string r) ∧ Below w.heap.size w w' := by
  subst hr
  refine join_s ao n cap ps w h hn fun j hj => ?_
  unfold partAt
  rw [List.getD_eq_getElem?_getD, List.getElem?_eq_getElem hj]
  simpa using List.all_eq_true.1 hp _ (List.getElem_mem hj)
theorem pairs_k (ao : Option Addr) (n cap : Nat) (ps : List Pr) (r : ByteArray) (w : World) (h : PairsAt w ao n cap ps) (hn : ps.length ≤ 1000) (hp : ps.all (fun p => decide (p.1.size ≤ 1000000) && decide (p.2.size ≤ 1000000)) = true) (hr : pairsS ps = r) :
    Calls Tryd.prog 11 #[.slice ao n cap] w fun e w' => e = .returned (.string r) ∧ Below w.heap.size w w' := by
  subst hr
  refine pairs_s ao n cap ps w h hn fun j hj => ?_
  unfold prAt
  rw [List.getD_eq_getElem?_getD, List.getElem?_eq_getElem hj]
  simpa using List.all_eq_true.1 hp _ (List.getElem_mem hj)
theorem base64_k (s r : ByteArray) (w : World) (hs : s.size ≤ 1000000000) (h : b64S s = r) :
    Calls Tryd.prog 16 #[.string s] w fun e w' => e = .returned (.string r) ∧ Below w.heap.size w w' := by
  subst h; exact base64_s s w hs
theorem int_k (n : Int) (r : ByteArray) (w : World) (h0 : -9223372036854775808 ≤ n) (h1 : n ≤ 9223372036854775807) (ho : IntOk w) (h : ofL (Lib.itoa n) = r) :
    Calls Tryd.prog 13 #[.int .i64 n] w fun e w' => e = .returned (.string r) ∧ Below w.heap.size w w' := by
  subst h; exact int_s n w h0 h1 ho

theorem c1 : unS ⟨#[37, 55, 67]⟩ = ⟨#[124]⟩ ∧ unE ⟨#[37, 55, 67]⟩ = 0 := by decide +kernel
theorem c2 : unS ⟨#[37, 52, 49]⟩ = ⟨#[]⟩ ∧ unE ⟨#[37, 52, 49]⟩ = 4 := by decide +kernel
theorem c3 : splS ⟨#[97, 124, 124, 98, 37, 50, 48, 99]⟩ = [⟨#[97]⟩, ⟨#[]⟩, ⟨#[98, 32, 99]⟩] ∧ splE ⟨#[97, 124, 124, 98, 37, 50, 48, 99]⟩ = 0 ∧ [(⟨#[97]⟩ : ByteArray), ⟨#[]⟩, ⟨#[98, 32, 99]⟩].length = 3 := by decide +kernel
theorem c4 : splS ⟨#[45]⟩ = [] ∧ splE ⟨#[45]⟩ = 0 ∧ ([] : List ByteArray).length = 0 := by decide +kernel
theorem c5 : readI (⟨#[45, 49, 50]⟩ : ByteArray).data.toList = (-12, 0) := by decide +kernel
theorem c6 : readI (⟨#[48, 48, 55]⟩ : ByteArray).data.toList = (0, 4) := by decide +kernel
theorem c7 : r64S ⟨#[81, 87, 53, 117, 73, 81]⟩ = ⟨#[65, 110, 110, 33]⟩ ∧ r64E ⟨#[81, 87, 53, 117, 73, 81]⟩ = 0 := by decide +kernel
theorem c8 : rpsS ⟨#[97, 61, 49, 124, 98, 61, 120, 37, 51, 68, 121]⟩ = [(⟨#[97]⟩, ⟨#[49]⟩), (⟨#[98]⟩, ⟨#[120, 61, 121]⟩)] ∧ rpsE ⟨#[97, 61, 49, 124, 98, 61, 120, 37, 51, 68, 121]⟩ = 0 ∧ [((⟨#[97]⟩ : ByteArray), (⟨#[49]⟩ : ByteArray)), (⟨#[98]⟩, ⟨#[120, 61, 121]⟩)].length = 2 := by decide +kernel
theorem c9 : (⟨(escL (⟨#[97, 32, 98, 61, 49]⟩ : ByteArray).data.toList).toArray⟩ : ByteArray) = ⟨#[97, 37, 50, 48, 98, 37, 51, 68, 49]⟩ := by decide +kernel
theorem c10 : joinS [⟨#[97]⟩, ⟨#[]⟩, ⟨#[98, 32, 99]⟩] = ⟨#[97, 124, 124, 98, 37, 50, 48, 99]⟩ := by decide +kernel
theorem c11 : ofL (Lib.itoa (-12)) = ⟨#[45, 49, 50]⟩ := by decide +kernel
theorem c12 : b64S ⟨#[65, 110, 110, 33]⟩ = ⟨#[81, 87, 53, 117, 73, 81]⟩ := by decide +kernel
theorem c13 : pairsS [(⟨#[97]⟩, ⟨#[49]⟩), (⟨#[98]⟩, ⟨#[120, 61, 121]⟩)] = ⟨#[97, 61, 49, 124, 98, 61, 120, 37, 51, 68, 121]⟩ := by decide +kernel

theorem c7lt : ∀ j, j < (⟨#[81, 87, 53, 117, 73, 81]⟩ : ByteArray).size → bt ⟨#[81, 87, 53, 117, 73, 81]⟩ j < 128 := by decide +kernel

set_option maxRecDepth 100000 in
set_option maxHeartbeats 4000000 in
theorem live_s (w : World) (ho : COk w) :
    Calls Tryd.prog 7 #[] w fun e w' => e = .returned (.bool true) ∧ Below w.heap.size w w' := by
  have B0 := Below.refl w.heap.size w
  have O0 := ho
  go_enter Tryd.func7, Tryd.ntmps7
  go_wp2_with fail
  refine (unescape_k _ _ _ _ (by decide) c1).mono ?_
  rintro e w1 ⟨rfl, hb⟩
  have B1 := B0.trans (hb.mono B0.size)
  have O1 := O0.below hb
  clear hb
  go_wp2_with fail
  refine (unescape_k _ _ _ _ (by decide) c2).mono ?_
  rintro e w2 ⟨rfl, hb⟩
  have B2 := B1.trans (hb.mono B1.size)
  have O2 := O1.below hb
  clear hb
  go_wp2_with fail
  refine (split_at _ _ _ _ _ (by decide) O2.1 c3).mono ?_
  rintro e w3 ⟨⟨ao3, cap3, rfl, A3⟩, hb⟩
  have B3 := B2.trans (hb.mono B2.size)
  have O3 := O2.below hb
  clear hb
  go_wp2_with fail
  refine (split_at _ _ _ _ _ (by decide) O3.1 c4).mono ?_
  rintro e w4 ⟨⟨ao4, cap4, rfl, A4⟩, hb⟩
  have B4 := B3.trans (hb.mono B3.size)
  have O4 := O3.below hb
  have A3 := A3.below hb
  clear hb
  go_wp2_with fail
  refine (readInt_k _ _ _ _ (by decide) O4.2 c5).mono ?_
  rintro e w5 ⟨rfl, hb⟩
  have B5 := B4.trans (hb.mono B4.size)
  have O5 := O4.below hb
  have A3 := A3.below hb
  clear hb
  go_wp2_with fail
  refine (readInt_k _ _ _ _ (by decide) O5.2 c6).mono ?_
  rintro e w6 ⟨rfl, hb⟩
  have B6 := B5.trans (hb.mono B5.size)
  have O6 := O5.below hb
  have A3 := A3.below hb
  clear hb
  go_wp2_with fail
  refine (readBase64_k _ _ _ _ (by decide) c7lt c7).mono ?_
  rintro e w7 ⟨rfl, hb⟩
  have B7 := B6.trans (hb.mono B6.size)
  have O7 := O6.below hb
  have A3 := A3.below hb
  clear hb
  go_wp2_with fail
  refine (readPairs_at _ _ _ _ _ (by decide) O7.1 c8).mono ?_
  rintro e w8 ⟨⟨ao8, cap8, rfl, A8⟩, hb⟩
  have B8 := B7.trans (hb.mono B7.size)
  have O8 := O7.below hb
  have A3 := A3.below hb
  clear hb
  go_wp2_with fail
  refine (escape_k _ _ _ (by decide) c9).mono ?_
  rintro e w9 ⟨rfl, hb⟩
  have B9 := B8.trans (hb.mono B8.size)
  have O9 := O8.below hb
  have A3 := A3.below hb
  have A8 := A8.below hb
  clear hb
  go_wp2_with fail
  refine (join_k _ _ _ _ _ _ A3 (by decide) (by decide) c10).mono ?_
  rintro e w10 ⟨rfl, hb⟩
  have B10 := B9.trans (hb.mono B9.size)
  have O10 := O9.below hb
  have A8 := A8.below hb
  clear hb
  go_wp2_with fail
  refine (int_k _ _ _ (by decide) (by decide) O10.2 c11).mono ?_
  rintro e w11 ⟨rfl, hb⟩
  have B11 := B10.trans (hb.mono B10.size)
  have O11 := O10.below hb
  have A8 := A8.below hb
  clear hb
  go_wp2_with fail
  refine (base64_k _ _ _ (by decide) c12).mono ?_
  rintro e w12 ⟨rfl, hb⟩
  have B12 := B11.trans (hb.mono B11.size)
  have O12 := O11.below hb
  have A8 := A8.below hb
  clear hb
  go_wp2_with fail
  refine (pairs_k _ _ _ _ _ _ A8 (by decide) (by decide) c13).mono ?_
  rintro e w13 ⟨rfl, hb⟩
  have B13 := B12.trans (hb.mono B12.size)
  have O13 := O12.below hb
  clear hb
  go_wp2_with fail
  go_ret
  exact ⟨rfl, B13⟩

end Go.Proofs.YtelddbgnhfhkiabDoor
