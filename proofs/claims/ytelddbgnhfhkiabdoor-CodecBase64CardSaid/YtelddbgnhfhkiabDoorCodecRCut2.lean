/-
  Plain facts on pieces, and the specification's Cut and Unescape once more, by cases. Condition: at most 1000000 bytes.
-/
import Derived.Test.YtelddbgnhfhkiabDoorCodecRCut
import Derived.Test.YtelddbgnhfhkiabDoorCodecRUn
import Derived.Test.YtelddbgnhfhkiabDoorCodecLive
set_option linter.unusedVariables false
set_option linter.unusedSimpArgs false
set_option linter.unnecessarySimpa false
namespace Go.Proofs.YtelddbgnhfhkiabDoor
open Go.RowKit Go.PlainAid

theorem pieces_mem (b : UInt8) : ∀ (l p : List UInt8), p ∈ pieces b l → p.length ≤ l.length
  | [], p, h => by
    have : p = [] := by simpa [pieces] using h
    subst this; exact Nat.le_refl _
  | c :: l, p, h => by
    have ih := pieces_mem b l
    unfold pieces at h
    split at h
    · rcases List.mem_cons.1 h with h | h
      · subst h; simp
      · have := ih p h; simp; omega
    · split at h
      · rename_i q r hq
        rcases List.mem_cons.1 h with h | h
        · subst h
          have := ih q (by rw [hq]; simp)
          simp; exact this
        · have := ih p (by rw [hq]; simp [h])
          simp; omega
      · have : p = [c] := by simpa using h
        subst this; simp
theorem pieces_count (b : UInt8) : ∀ (l : List UInt8), (pieces b l).length ≤ l.length + 1
  | [] => by simp [pieces]
  | c :: l => by
    have ih := pieces_count b l
    unfold pieces
    split
    · simp; exact ih
    · split
      · rename_i q r hq
        rw [hq] at ih; simp at ih ⊢; omega
      · simp
theorem readAll_step (ps : List (List UInt8)) (k : Nat) (h : k < ps.length) : readAll (ps.drop k) = match unesc (partAt (ps.map ofL) k).data.toList with
    | some x => (readAll (ps.drop (k + 1))).map (x :: ·)
    | none => none := by
  have e : (partAt (ps.map ofL) k).data.toList = ps[k] := by
    unfold partAt
    rw [List.getD_eq_getElem?_getD, List.getElem?_map, List.getElem?_eq_getElem h]; rfl
  rw [e, List.drop_eq_getElem_cons h]
  conv => lhs; unfold readAll
  cases unesc ps[k] <;> rfl
theorem own_base {w : World} {B B' : Nat} {e size n : Nat} {v : Value} {xs : List Value} (h : w.ownsRow B' e size v n xs) (hB : B ≤ B') : w.ownsRow B e size v n xs := by
  refine ⟨h.1, ?_⟩
  rcases h.2 with h0 | ⟨g, cap, cur, hv, hb, rest⟩
  · exact .inl h0
  · exact .inr ⟨g, cap, cur, hv, Nat.le_trans hB hb, rest⟩
theorem runescape_no' (s : ByteArray) (w : World) (hs : s.size ≤ 1000000000) (h : unesc s.data.toList = none) :
    Calls Tryd.prog 30 #[.string s] w fun e w' => e = .returned (.tuple #[.string ⟨#[]⟩, .int .i64 4]) ∧ Below w.heap.size w w' :=
  (runescape_s s w hs).mono fun e w' k => ⟨by rw [k.1, (unS_none h).1, (unS_none h).2], k.2⟩
theorem runescape_ok' (s : ByteArray) (x : List UInt8) (w : World) (hs : s.size ≤ 1000000000) (h : unesc s.data.toList = some x) :
    Calls Tryd.prog 30 #[.string s] w fun e w' => e = .returned (.tuple #[.string (ofL x), .int .i64 0]) ∧ Below w.heap.size w w' :=
  (runescape_s s w hs).mono fun e w' k => ⟨by rw [k.1, (unS_some h).1, (unS_some h).2], k.2⟩
theorem rcut_at (s : ByteArray) (b : UInt8) (x : Int) (w : World) (hs : s.size ≤ 1000000) (hx : x = (b.toNat : Int)) :
    Calls Tryd.prog 28 #[.string s, .int .u8 x] w fun e w' => (∃ ao cap, e = .returned (.slice ao ((pieces b s.data.toList).map ofL).length cap) ∧ StrsAt w' ao ((pieces b s.data.toList).map ofL).length cap ((pieces b s.data.toList).map ofL)) ∧ Below w.heap.size w w' := by
  refine (rcut_s s b x w hs hx).mono fun e w' ⟨v, h1, h2, h3⟩ => ?_
  obtain ⟨ao, cap, rfl, h4⟩ := strs_own h2 (by simp)
  rw [List.length_map]
  exact ⟨⟨ao, cap, h1, h4⟩, h3⟩

end Go.Proofs.YtelddbgnhfhkiabDoor
