/-
  The map that attrs.Sorted builds: what it holds behind k attributes.
-/
import Derived.Test.YtahpocpagidahaaAttApp
import Derived.Test.YtahpocpagidahaaAttCk
set_option linter.unusedVariables false
set_option linter.unusedSimpArgs false
set_option linter.unnecessarySimpa false
namespace Go.Proofs.Ytahpocpagidahaa
open Go.RowKit Go.PlainAid Go.Maps Go.ChangeMaps

theorem allV_snoc (l : List At) (a : At) (n : ByteArray) : allV (l ++ [a]) n = allV l n ++ (if lowS a.1 = n then a.2 else []) := by
  unfold allV
  rw [List.filter_append, List.flatMap_append]
  congr 1
  by_cases h : lowS a.1 = n <;> simp [h]
/-- the united values behind k attributes -/
structure United (w : World) (b k : Nat) (D : DataW Unit) (l : List At) (hv : ByteArray → Value) : Prop where
  grp : Groups w (b + 1) b k D (allV l) hv
  keys : ∀ x : ByteArray, Maps.has D (klit x) = true ↔ x ∈ lowN l
theorem united_made (w : World) : United (w.alloc (.map #[] 0)) w.heap.size 0 (.map []) [] (fun _ => .slice none 0 0) where
  grp := groups_made w
  keys x := by simp [lowN, Maps.has]
theorem Groups.below {H : Type} {w w' : World} {base b n : Nat} {D : DataW H} {gv : ByteArray → List ByteArray} {hv : ByteArray → Value} (G : Groups w base b n D gv hv) (hb : Below w.heap.size w w') : Groups w' base b n D gv hv where
  map := G.map.kept (row := none) ⟨hb.os, hb.tape, hb.output, hb.size, fun k hk _ => hb.block k hk⟩ (by simp)
  low := G.low
  reads := G.reads
  own k := own_below (G.own k) hb
  apart := G.apart
theorem United.below {w w' : World} {b k : Nat} {D : DataW Unit} {l : List At} {hv : ByteArray → Value} (U : United w b k D l hv) (hb : Below w.heap.size w w') : United w' b k D l hv := ⟨U.grp.below hb, U.keys⟩
theorem United.store {w w1 : World} {b k : Nat} {D : DataW Unit} {l : List At} {hv : ByteArray → Value} (U : United w b k D l hv) (a : At) {lw : ByteArray} (hlw : lowS a.1 = lw) (hk : lw.size ≤ maxLen) (hn : k < maxLen) {v' : Value}
    (hg : w.grownBy w1 (hv lw).ownBlock) (hown : w1.ownsRow (b + 1) 9 1 v' ((allV l lw).length + a.2.length) (scells (allV l lw) ++ scells a.2)) (hl : v'.ownBlock = (hv lw).ownBlock ∨ v'.ownBlock = some w.heap.size) :
    ∃ w2 D2 hv2, (Instr.mapUpdate 47 (.map (some b)) (.string lw) v').run Try.prog w1 = .ok () w2 ∧ United w2 b (k + 1) D2 (l ++ [a]) hv2 ∧ w1.grownBy w2 (some b) := by
  have hown' : w1.ownsRow (b + 1) 9 1 v' (allV l lw ++ a.2).length (scells (allV l lw ++ a.2)) := by
    rw [List.length_append]
    have : scells (allV l lw ++ a.2) = scells (allV l lw) ++ scells a.2 := by unfold scells; rw [List.map_append]
    rw [this]; exact hown
  obtain ⟨w2, d, hrun, G, hg2⟩ := U.grp.store lw hk hn hg hown' (hl.imp id fun e => ⟨_, e, Nat.le_refl _⟩)
  have e : setK (allV l) lw (allV l lw ++ a.2) = allV (l ++ [a]) := by
    funext n
    rw [allV_snoc, hlw]
    by_cases h : lw = n
    · subst h; rw [setK_same, if_pos rfl]
    · rw [setK_other _ _ (fun e => h e.symm), if_neg h, List.append_nil]
  rw [e] at G
  refine ⟨w2, _, _, hrun, ⟨G, fun x => ?_⟩, hg2⟩
  have hm : lowN (l ++ [a]) = lowN l ++ [lw] := by unfold lowN; rw [List.map_append, ← hlw]; rfl
  rw [hm, List.mem_append, List.mem_singleton]
  by_cases h : x = lw
  · subst h
    rw [has_put_same U.grp.map.isMap (by unfold klit; trivial)]
    simp
  · rw [has_put_other (fun e => h (klit_one e)), U.keys x]
    simp [h]

/-- how many values there are in all -/
def sumV (l : List At) : Nat := (l.map fun a => a.2.length).sum
theorem sumV_cons (a : At) (l : List At) : sumV (a :: l) = a.2.length + sumV l := by unfold sumV; rw [List.map_cons, List.sum_cons]
theorem allV_cons (a : At) (l : List At) (n : ByteArray) : allV (a :: l) n = (if lowS a.1 = n then a.2 else []) ++ allV l n := by
  unfold allV
  by_cases h : lowS a.1 = n
  · rw [List.filter_cons_of_pos (by simpa using h), List.flatMap_cons, if_pos h]
  · rw [List.filter_cons_of_neg (by simpa using h), if_neg h]; rfl
theorem allV_len (n : ByteArray) : ∀ l : List At, (allV l n).length ≤ sumV l
  | [] => Nat.le_refl _
  | a :: l => by
    rw [allV_cons, sumV_cons, List.length_append]
    have := allV_len n l
    split
    · omega
    · simp; omega
theorem sumV_take : ∀ (l : List At) (j : Nat), sumV (l.take j) ≤ sumV l
  | [], j => by simp
  | a :: l, 0 => by simp [sumV]
  | a :: l, j + 1 => by
    rw [List.take_succ_cons, sumV_cons, sumV_cons]
    have := sumV_take l j
    omega

end Go.Proofs.Ytahpocpagidahaa
