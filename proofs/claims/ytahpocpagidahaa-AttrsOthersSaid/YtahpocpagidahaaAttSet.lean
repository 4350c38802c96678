/-
  Contract of attrs.setOf: a map of the call's own whose keys are the strings of a list. Condition: at most 1000000 strings of at most 1000000 bytes.
-/
import Derived.Test.YtahpocpagidahaaAttAsc
import Derived.Test.YtahpocpagidahaaAttTw
set_option linter.unusedVariables false
set_option linter.unusedSimpArgs false
set_option linter.unnecessarySimpa false
namespace Go.Proofs.Ytahpocpagidahaa
open Go.RowKit Go.PlainAid Go.Maps Go.ChangeMaps

variable {H : Type}
/-- a set of strings: the map's keys are those of ks, each with true -/
structure SetM (w : World) (b n : Nat) (D : DataW H) (ks : List ByteArray) : Prop where
  map : w.ownsMap Try.prog 9 (plainElem Try.prog 4) b n D
  reads : ∀ k : ByteArray, D.atKey (klit k) (.lit (.bool false)) = .lit (.bool (memB ks k))
theorem plain_bool {P : Program} {e : TypeId} {v : Value} {x : Bool} {ps : List MemPlace} (he : P.underlying e = some .bool) (h : plainElem (H := H) P e v = some (.lit (.bool x), ps)) : v = .bool x := by
  unfold plainElem at h
  rw [he] at h
  cases v <;> simp at h
  rw [h.1]
theorem memB_snoc (ks : List ByteArray) (s k : ByteArray) : memB (ks ++ [s]) k = (memB ks k || decide (s = k)) := by
  unfold memB; rw [List.any_append]; simp
theorem setM_made (w : World) : SetM (H := H) (w.alloc (.map #[] 0)) w.heap.size 0 (.map []) [] where
  map := World.ownsMap_made w _ _ _
  reads k := rfl
theorem SetM.look {w : World} {b n : Nat} {D : DataW H} {ks : List ByteArray} (G : SetM w b n D ks) (k : ByteArray) (hk : k.size ≤ maxLen) :
    (Instr.lookup 43 (.map (some b)) (.string k) false).run Try.prog w = .ok (.bool (memB ks k)) w := by
  obtain ⟨v, ps, hrun, hv⟩ := G.map.lookup (t := 43) (e := 4) (string_keyed Try.underlying9) Try.underlying43 (z := .bool false) (Try.zeroValue4 _) (plainElem_bool Try.underlying4 false) (klit_key k hk)
  rw [G.reads k] at hv
  have hv' : v = .bool (memB ks k) := plain_bool Try.underlying4 hv
  rw [hrun, hv']
theorem SetM.store {w : World} {b n : Nat} {D : DataW H} {ks : List ByteArray} (G : SetM w b n D ks) (k : ByteArray) (hk : k.size ≤ maxLen) (hn : n < maxLen) :
    ∃ w', (Instr.mapUpdate 43 (.map (some b)) (.string k) (.bool true)).run Try.prog w = .ok () w' ∧ SetM w' b (n + 1) (D.put (klit k) (.lit (.bool true))) (ks ++ [k]) ∧ w.grownBy w' (some b) := by
  obtain ⟨w', hrun, hm, hg⟩ := G.map.update (t := 43) (e := 4) (string_keyed Try.underlying9) Try.underlying43 hn (klit_key k hk) (plainElem_bool Try.underlying4 true)
  refine ⟨w', hrun, ⟨hm, fun j => ?_⟩, hg⟩
  rw [memB_snoc]
  by_cases e : k = j
  · subst e
    rw [atKey_put_same G.map.isMap (by unfold klit; trivial)]; simp
  · rw [atKey_put_other (fun h => e (klit_one h).symm), G.reads j]
    simp [e]
theorem SetM.kept {w w' : World} {b n : Nat} {D : DataW H} {ks : List ByteArray} {row : Option Nat} (G : SetM w b n D ks) (hg : w.grownBy w' row) (hne : some b ≠ row) : SetM w' b n D ks := ⟨G.map.kept hg hne, G.reads⟩

set_option maxRecDepth 100000 in
set_option maxHeartbeats 2000000 in
theorem setOf_s (ao : Option Addr) (n cap : Nat) (ps : List ByteArray) (w : World) (h : StrsAt w ao n cap ps) (hn : n ≤ 1000000) (hS : SmallS ps) :
    Calls Try.prog 56 #[.slice ao n cap] w fun e w' => e = .returned (.map (some w.heap.size)) ∧ (∃ D, SetM (H := Unit) w' w.heap.size n D ps) ∧ Below w.heap.size w w' := by
  obtain ⟨h1, h2, h3, h4⟩ := h
  subst h1
  unfold maxLen at h3
  have H4 := Lib.hid h4; clear h4
  have HS := Lib.hid hS; clear hS
  have hB0 : Below w.heap.size w (w.alloc (.map #[] 0)) := (Below.refl _ _).alloc (Nat.le_refl _) _
  have G0 := setM_made (H := Unit) w
  have hmm := @run_makeMap Try.prog
  go_enter Try.func56, Try.ntmps56
  go_wp2
  clear hmm
  go_loopw [5, 9] (fun s i wr => ∃ (k : Nat) (D : DataW Unit), k ≤ ps.length ∧ i = .int .i64 k ∧ Hid (SetM wr w.heap.size k D (ps.take k)) ∧ Hid (Below w.heap.size w wr)) (fun _ i _ => ps.length - (intOf i).toNat)
  case atStart => exact ⟨0, _, Nat.zero_le _, rfl, Lib.hid G0, Lib.hid hB0⟩
  case round =>
    obtain ⟨k, D, hk, rfl, HG, HB⟩ := hrel
    by_cases hlt : k < ps.length
    · obtain ⟨b, off, rfl, hs⟩ := H4.out (by omega)
      have hcell := (hs.below HB.out hs.1).2 k hlt
      clear hs
      obtain ⟨p, hpe⟩ : ∃ p, partAt ps k = p := ⟨_, rfl⟩
      have hps : p.size ≤ 1000000 := by rw [← hpe]; exact HS.out _ (part_mem ps k hlt)
      rw [hpe] at hcell
      have HT := Lib.hid (show ps.take (k + 1) = ps.take k ++ [p] by rw [← hpe]; exact take_snoc ps k hlt)
      clear hpe
      obtain ⟨w', hrun, HG', hgr⟩ := HG.out.store p (by unfold maxLen; omega) (by unfold maxLen; omega)
      have HG2 := Lib.hid HG'
      have HB2 := Lib.hid (HB.out.grown hgr (HB.out.size) (fun j hj => by cases hj; exact Nat.le_refl _))
      clear HG' hgr
      have d1 : (k : Int) < (ps.length : Int) := by omega
      go_wp2_with fail
      go_roundw
      case rel => exact ⟨k + 1, _, by omega, by go_num, by rw [HT.out]; exact HG2, HB2⟩
      case measure => simp [intOf]; omega
    · have hke : k = ps.length := by omega
      subst hke
      go_wp2_with fail
      go_ret
      have hg := HG.out
      rw [List.take_length] at hg
      exact ⟨rfl, ⟨D, hg⟩, HB.out⟩

end Go.Proofs.Ytahpocpagidahaa
