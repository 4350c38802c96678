/-
  Plain facts for FoldWild, and the append of strings to a slice that the call itself made. No condition.
-/
import Derived.Test.YtelddbgnhfhkiaaDoorFoldAt
import Derived.Test.YtelddbgnhfhkiaaDoorFoldG
set_option linter.unusedVariables false
set_option linter.unusedSimpArgs false
set_option linter.unnecessarySimpa false
namespace Go.Proofs.YtelddbgnhfhkiaaDoor
open Go.RowKit Go.PlainAid

theorem lowS_empty : lowS ByteArray.empty = ByteArray.empty := by decide +kernel
theorem cut_empty (t : ByteArray) : cutOk t ByteArray.empty = true ∧ cutAft t ByteArray.empty = t := by
  have h : Lib.cut t.data.toList (ByteArray.empty).data.toList = ([], t.data.toList, true) := by
    have e : (ByteArray.empty).data.toList = [] := rfl
    unfold Lib.cut
    rw [e, Lib.index_empty]
    simp
  unfold cutOk cutAft
  rw [h]
  exact ⟨rfl, Lib.mk_data t⟩
theorem occ_empty : ∀ (xs : List ByteArray) (t : ByteArray) (ys : List ByteArray), occB t (xs ++ ByteArray.empty :: ys) = occB t (xs ++ ys)
  | [], t, ys => by
    show (cutOk t (lowS ByteArray.empty) && occB (cutAft t (lowS ByteArray.empty)) ys) = occB t ys
    rw [lowS_empty, (cut_empty t).1, (cut_empty t).2, Bool.true_and]
  | x :: xs, t, ys => by
    show (cutOk t (lowS x) && occB (cutAft t (lowS x)) (xs ++ ByteArray.empty :: ys)) = (cutOk t (lowS x) && occB (cutAft t (lowS x)) (xs ++ ys))
    rw [occ_empty xs]
def moreL (ps : List ByteArray) (k : Nat) : List ByteArray := ps.take k ++ [ByteArray.empty] ++ ps.drop k
theorem more_length (ps : List ByteArray) (k : Nat) (h : k ≤ ps.length) : (moreL ps k).length = ps.length + 1 := by
  unfold moreL; simp; omega
theorem match_more (s : ByteArray) (ps : List ByteArray) (k : Nat) (h1 : 1 ≤ k) (h2 : k + 1 ≤ ps.length) : matchB s (moreL ps k) = matchB s ps := by
  have hl := more_length ps k (by omega)
  have e0 : partAt (moreL ps k) 0 = partAt ps 0 := by
    unfold partAt moreL
    rw [List.append_assoc, List.getD_eq_getElem?_getD, List.getD_eq_getElem?_getD, List.getElem?_append_left (by rw [List.length_take]; omega), List.getElem?_take, if_pos (by omega)]
  have el : partAt (moreL ps k) ((moreL ps k).length - 1) = partAt ps (ps.length - 1) := by
    rw [hl]
    unfold partAt moreL
    rw [List.getD_eq_getElem?_getD, List.getD_eq_getElem?_getD, List.getElem?_append_right (by simp; omega), List.getElem?_drop]
    congr 2
    simp; omega
  have eb : between (moreL ps k) = (ps.take k).drop 1 ++ ByteArray.empty :: (ps.drop k).take (ps.length - 1 - k) := by
    unfold between
    rw [hl]
    unfold moreL
    rw [List.append_assoc, List.drop_append_of_le_length (by rw [List.length_take]; omega), List.take_append]
    have e1 : ((ps.take k).drop 1).length = k - 1 := by rw [List.length_drop, List.length_take]; omega
    rw [e1, List.take_of_length_le (by rw [e1]; omega)]
    congr 1
    have e2 : ps.length + 1 - 2 - (k - 1) = (ps.length - 1 - k) + 1 := by omega
    rw [e2]; rfl
  have eb2 : between ps = (ps.take k).drop 1 ++ (ps.drop k).take (ps.length - 1 - k) := by
    unfold between
    have e1 : ps.drop 1 = (ps.take k).drop 1 ++ ps.drop k := by
      conv => lhs; rw [← List.take_append_drop k ps]
      rw [List.drop_append_of_le_length (by rw [List.length_take]; omega)]
    have e2 : ((ps.take k).drop 1).length = k - 1 := by rw [List.length_drop, List.length_take]; omega
    rw [e1, List.take_append, e2, List.take_of_length_le (by rw [e2]; omega)]
    congr 2; omega
  unfold matchB restS
  rw [e0, el, eb, eb2, occ_empty, hl]
  have d1 : decide (2 ≤ ps.length + 1) = true := by simp; omega
  have d2 : decide (2 ≤ ps.length) = true := by simp; omega
  rw [d1, d2]
theorem match_fold (s : ByteArray) (ps : List ByteArray) : matchB (foldS s) ps = matchB s ps := by
  unfold matchB restS; rw [foldS_fold]
theorem match_two (s : ByteArray) : matchB s [ByteArray.empty, ByteArray.empty] = true := by
  have h1 : ∀ t : ByteArray, preOk t ByteArray.empty = true := fun t => by unfold preOk Lib.hasPrefix; rfl
  have h2 : ∀ t : ByteArray, sufOk t ByteArray.empty = true := fun t => by unfold sufOk Lib.hasSuffix; simp [List.isSuffixOf]
  unfold matchB restS
  have e0 : partAt [ByteArray.empty, ByteArray.empty] 0 = ByteArray.empty := rfl
  have e1 : partAt [ByteArray.empty, ByteArray.empty] ([ByteArray.empty, ByteArray.empty].length - 1) = ByteArray.empty := rfl
  rw [e0, e1, lowS_empty, h1, h2]
  rfl

/-- the cells of strings -/
def scells (l : List ByteArray) : List Value := l.map Value.string
theorem info_string : (Tryd.prog.info? 9).map (fun i => (i.zero, i.size, i.bytes)) = some (some (.string ⟨#[]⟩), 1, 16) := by kernel_rfl
/-- 'l = append(l, xs...)' where l is the call's own -/
theorem app_strs {ops : Array Oper} {rest : List Oper} {o : Oper} {a : Act} {Q : Exit → Act → World → Prop} (wr : World) {base : Nat} {v : Value} {n : Nat} {xs : List Value} (hown : wr.ownsRow base 9 1 v n xs) (s x : Operand)
    (ad : Addr) (m c : Nat) (news : List ByteArray) (hgd : o.guard = none)
    (ho : o.op = .call { callee := .builtin .append, args := #[s, x], argTypes := #[27, 27] })
    (hs : a.eval s = v) (hx : a.eval x = .slice (some ad) m c) (hl : news.length = m) (hnews : ∀ j u, (scells news)[j]? = some u → wr.cell? (ad.add j) = some u) (hn : n + m ≤ 1000000) (hbase : base ≤ wr.heap.size)
    (h : ∀ v' w', w'.ownsRow base 9 1 v' (n + m) (xs ++ scells news) → Below base wr w' → wpList Tryd.prog ops Q rest (a.put o.dst v') w') :
    wpList Tryd.prog ops Q (o :: rest) a wr := by
  obtain ⟨i0, hi, hz0, hz1, hz2⟩ := info_parts info_string
  refine wpList_append_own _ hgd s x 27 ho base 9 i0 (.string ⟨#[]⟩) 1 16 Tryd.underlying27 hi hz0 hz1 hz2 rfl (by decide) v n xs hs hown ad m c (scells news) hx (by simp [scells, hl]) hnews
    (by intro u hu; simp [scells] at hu; obtain ⟨p, _, rfl⟩ := hu; rfl) (by unfold maxLen; omega) (by omega) hbase ?_
  intro v' w' h1 h2 _
  exact h v' w' h1 ((Below.refl base wr).grown h2 hbase (fun k hk => (hown.lt k hk).1))
theorem strs_of_owns {w : World} {base : Nat} {v : Value} {n : Nat} {ps : List ByteArray} (h : w.ownsRow base 9 1 v n (scells ps)) (hn : 0 < n) : ∃ g cap, v = .slice (some ⟨g, 0, none⟩) n cap ∧ n ≤ cap ∧ ps.length = n ∧ IsStrs w g 0 ps := by
  have h0 := h
  obtain ⟨hl, ⟨rfl, hz⟩ | ⟨g, cap, cur, rfl, h2, h3, h4, h5, h6⟩⟩ := h
  · omega
  · have hlen : ps.length = n := by simpa [scells] using hl
    refine ⟨g, cap, rfl, h4, hlen, ?_, fun j hj => ?_⟩
    · exact (Array.getElem?_eq_some_iff.1 h3).1
    · have := h0.cells rfl j (.string (partAt ps j)) (by
        unfold scells partAt
        rw [List.getElem?_map, List.getD_eq_getElem?_getD, List.getElem?_eq_getElem hj]; rfl)
      rw [WideShapes.add_plain] at this
      exact this

end Go.Proofs.YtelddbgnhfhkiaaDoor
