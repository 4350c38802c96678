/-
  Pairs in memory: a slice of pairs, a row of pairs that the call owns, append of one pair. No condition.
-/
import Derived.Test.YtdjhhofmlefaaaaDoorNamK
set_option linter.unusedVariables false
set_option linter.unusedSimpArgs false
set_option linter.unnecessarySimpa false
namespace Go.Proofs.YtdjhhofmlefaaaaDoor
open Go.RowKit Go.PlainAid

def prAt (ps : List Pr) (j : Nat) : Pr := ps.getD j (ByteArray.empty, ByteArray.empty)
theorem pr_take (ps : List Pr) (k : Nat) (h : k < ps.length) : ps.take (k + 1) = ps.take k ++ [prAt ps k] := by
  unfold prAt
  rw [List.take_succ_eq_append_getElem h, List.getD_eq_getElem?_getD, List.getElem?_eq_getElem h]; rfl
/-- a slice's pairs, as they lie in memory -/
def IsPairs (w : World) (b off : Nat) (ps : List Pr) : Prop :=
  b < w.heap.size ∧ ∀ j, j < ps.length → w.cell? ⟨b, off + j * 2, none⟩ = some (.string (prAt ps j).1) ∧ w.cell? ⟨b, off + j * 2 + 1, none⟩ = some (.string (prAt ps j).2)
theorem IsPairs.below {w w' : World} {b off : Nat} {ps : List Pr} (h : IsPairs w b off ps) {B : Nat} (hb : Below B w w') (hB : b < B) : IsPairs w' b off ps :=
  ⟨Nat.lt_of_lt_of_le h.1 hb.size, fun j hj => by
    rw [hb.cell (p := ⟨b, off + j * 2, none⟩) hB, hb.cell (p := ⟨b, off + j * 2 + 1, none⟩) hB]; exact h.2 j hj⟩
def PairsAt (w : World) (ao : Option Addr) (n cap : Nat) (ps : List Pr) : Prop :=
  ps.length = n ∧ n ≤ cap ∧ cap ≤ maxLen ∧ (0 < n → ∃ b off, ao = some ⟨b, off, none⟩ ∧ IsPairs w b off ps)
theorem PairsAt.below {w w' : World} {ao : Option Addr} {n cap : Nat} {ps : List Pr} (h : PairsAt w ao n cap ps) (hb : Below w.heap.size w w') : PairsAt w' ao n cap ps :=
  ⟨h.1, h.2.1, h.2.2.1, fun hn => by
    obtain ⟨b, off, e, hi⟩ := h.2.2.2 hn
    exact ⟨b, off, e, hi.below hb hi.1⟩⟩

/-- the cells of pairs -/
def pcells (l : List Pr) : List Value := l.flatMap fun p => [.string p.1, .string p.2]
theorem pcells_append (l m : List Pr) : pcells (l ++ m) = pcells l ++ pcells m := by simp [pcells]
theorem info_pair : (Tryd.prog.info? 36).map (fun i => (i.zero, i.size, i.bytes)) = some (some (.agg #[.string ⟨#[]⟩, .string ⟨#[]⟩]), 2, 32) := by kernel_rfl
theorem cells_two_new (w : World) (x y : Value) (t : TypeId) : ∀ j u, [x, y][j]? = some u → (w.alloc (.cells #[x, y] t)).cell? ((⟨w.heap.size, 0, none⟩ : Addr).add j) = some u := by
  intro j u hj
  have h : (w.alloc (.cells #[x, y] t)).heap[w.heap.size]? = some (.cells #[x, y] t (0, 0)) := heap_alloc_new w _
  rw [show (⟨w.heap.size, 0, none⟩ : Addr).add j = ⟨w.heap.size, j, none⟩ by rw [Go.WideShapes.add_plain, Nat.zero_add], Lib.cell_of_heap h]
  match j, hj with
  | 0, hj => simpa using hj
  | 1, hj => simpa using hj
  | j + 2, hj => simp at hj
/-- 'l = append(l, p)' where l is the call's own -/
theorem push_pair {ops : Array Oper} {rest : List Oper} {o : Oper} {a : Act} {Q : Exit → Act → World → Prop} (wr : World) {base : Nat} {v : Value} {n : Nat} {xs : List Value} (hown : wr.ownsRow base 36 2 v n xs) (s x : Operand)
    (p q : ByteArray) (hgd : o.guard = none)
    (ho : o.op = .call { callee := .builtin .append, args := #[s, x], argTypes := #[24, 24] })
    (hs : a.eval s = v) (hx : a.eval x = .slice (some ⟨wr.heap.size, 0, none⟩) 1 1) (hn : n + 1 ≤ 1000000000) (hbase : base ≤ wr.heap.size)
    (h : ∀ v' w', w'.ownsRow base 36 2 v' (n + 1) (xs ++ [.string p, .string q]) → Below base wr w' → wpList Tryd.prog ops Q rest (a.put o.dst v') w') :
    wpList Tryd.prog ops Q (o :: rest) a (wr.alloc (.cells #[.string p, .string q] 36)) := by
  obtain ⟨i0, hi, hz0, hz1, hz2⟩ := info_parts info_pair
  refine wpList_append_own _ hgd s x 24 ho base 36 i0 (.agg #[.string ⟨#[]⟩, .string ⟨#[]⟩]) 2 32 Tryd.underlying24 hi hz0 hz1 hz2 rfl (by decide) v n xs hs (hown.alloc _) ⟨wr.heap.size, 0, none⟩ 1 1 [.string p, .string q] hx rfl
    (cells_two_new _ _ _ _) (by intro u hu; simp at hu; rcases hu with rfl | rfl <;> rfl) (by unfold maxLen; omega) (by omega) (by simp; omega) ?_
  intro v' w' h1 h2 _
  refine h v' w' h1 ?_
  exact ((Below.refl base wr).alloc hbase _).grown h2 (by simp; omega) (fun k hk => (hown.lt k hk).1)

theorem own_below {w w' : World} {base : Nat} {e : TypeId} {size : Nat} {v : Value} {n : Nat} {xs : List Value} (h : w.ownsRow base e size v n xs) (hb : Below w.heap.size w w') : w'.ownsRow base e size v n xs :=
  h.kept (row := none) ⟨hb.os, hb.tape, hb.output, hb.size, fun k hk _ => hb.block k hk⟩ (by
    cases h : v.ownBlock
    · exact .inl rfl
    · exact .inr (by simp))

theorem pcells_at : ∀ (l : List Pr) (j : Nat), j < l.length → (pcells l)[j * 2]? = some (.string (prAt l j).1) ∧ (pcells l)[j * 2 + 1]? = some (.string (prAt l j).2)
  | [], j, h => by simp at h
  | p :: r, 0, h => ⟨rfl, rfl⟩
  | p :: r, j + 1, h => by
    have ih := pcells_at r j (by simp at h; omega)
    have e1 : (j + 1) * 2 = j * 2 + 2 := by omega
    rw [e1]
    exact ih
theorem pairs_own {w : World} {base n : Nat} {v : Value} {l : List Pr} (h : w.ownsRow base 36 2 v n (pcells l)) (hn : l.length = n) : ∃ ao cap, v = .slice ao n cap ∧ PairsAt w ao n cap l := by
  have h0 := h
  rcases h.2 with ⟨rfl, rfl⟩ | ⟨g, cap, cur, rfl, hb, hg, hc, hm, hcs, ht⟩
  · exact ⟨none, 0, rfl, hn, Nat.le_refl _, by unfold maxLen; omega, fun h => absurd h (Nat.lt_irrefl _)⟩
  · refine ⟨_, cap, rfl, hn, hc, hm, fun h1 => ⟨g, 0, rfl, ?_, fun j hj => ?_⟩⟩
    · rcases Nat.lt_or_ge g w.heap.size with h' | h'
      · exact h'
      · simp [Array.getElem?_eq_none h'] at hg
    · obtain ⟨p1, p2⟩ := pcells_at l j hj
      have h1 := h0.cells (g := g) rfl _ _ p1
      have h2 := h0.cells (g := g) rfl _ _ p2
      rw [Go.WideShapes.add_plain] at h1 h2
      exact ⟨h1, by rw [Nat.add_assoc]; exact h2⟩

def boolN : Value → Nat
  | .bool true => 1
  | _ => 0
theorem own_base {w : World} {base base' n size : Nat} {e : TypeId} {v : Value} {xs : List Value} (h : w.ownsRow base e size v n xs) (hb : base' ≤ base) : w.ownsRow base' e size v n xs := by
  refine ⟨h.1, ?_⟩
  rcases h.2 with h2 | ⟨g, cap, cur, h2, h3, h4⟩
  · exact .inl h2
  · exact .inr ⟨g, cap, cur, h2, Nat.le_trans hb h3, h4⟩
/-- the pairs behind place k -/
theorem PairsAt.tail {w : World} {g off n cap : Nat} {l : List Pr} (h : PairsAt w (some ⟨g, off, none⟩) n cap l) (k : Nat) (hk : k ≤ n) : PairsAt w (some ⟨g, off + k * 2, none⟩) (n - k) (cap - k) (l.drop k) := by
  obtain ⟨h1, h2, h3, h4⟩ := h
  refine ⟨by rw [List.length_drop, h1], by omega, by omega, fun hn => ⟨g, off + k * 2, rfl, ?_⟩⟩
  obtain ⟨b, o, e, hp⟩ := h4 (by omega)
  cases e
  refine ⟨hp.1, fun j hj => ?_⟩
  rw [List.length_drop] at hj
  have := hp.2 (k + j) (by omega)
  have e1 : prAt (l.drop k) j = prAt l (k + j) := by unfold prAt; rw [List.getD_eq_getElem?_getD, List.getD_eq_getElem?_getD, List.getElem?_drop]
  rw [e1, show off + k * 2 + j * 2 = off + (k + j) * 2 by omega]
  exact this
theorem pairs_nil (w : World) (ao : Option Addr) (cap : Nat) (h : cap ≤ maxLen) : PairsAt w ao 0 cap [] := ⟨rfl, Nat.zero_le _, h, fun h => absurd h (Nat.lt_irrefl _)⟩
theorem PairsAt.head {w : World} {ao : Option Addr} {n cap : Nat} {l : List Pr} (h : PairsAt w ao n cap l) (k : Nat) (hk : k ≤ n) (c : Nat) (hc : k ≤ c) (hc2 : c ≤ cap) : PairsAt w ao k c (l.take k) := by
  obtain ⟨h1, h2, h3, h4⟩ := h
  refine ⟨by rw [List.length_take]; omega, hc, by omega, fun hn => ?_⟩
  obtain ⟨b, o, e, hp⟩ := h4 (by omega)
  refine ⟨b, o, e, hp.1, fun j hj => ?_⟩
  rw [List.length_take] at hj
  have e1 : prAt (l.take k) j = prAt l j := by unfold prAt; rw [List.getD_eq_getElem?_getD, List.getD_eq_getElem?_getD, List.getElem?_take, if_pos (by omega)]
  rw [e1]
  exact hp.2 j (by omega)
theorem own_addr {w : World} {base n size : Nat} {e : TypeId} {v : Value} {xs : List Value} (h : w.ownsRow base e size v n xs) (hn : 0 < n) : ∃ g cap, v = .slice (some ⟨g, 0, none⟩) n cap := by
  rcases h.2 with ⟨rfl, h0⟩ | ⟨g, cap, cur, rfl, _⟩
  · omega
  · exact ⟨g, cap, rfl⟩
theorem own_slice {w : World} {base n size : Nat} {e : TypeId} {v : Value} {xs : List Value} (h : w.ownsRow base e size v n xs) : ∃ ao cap, v = .slice ao n cap := by
  rcases h.2 with ⟨rfl, rfl⟩ | ⟨g, cap, cur, rfl, _⟩
  · exact ⟨none, 0, rfl⟩
  · exact ⟨_, cap, rfl⟩

end Go.Proofs.YtdjhhofmlefaaaaDoor
