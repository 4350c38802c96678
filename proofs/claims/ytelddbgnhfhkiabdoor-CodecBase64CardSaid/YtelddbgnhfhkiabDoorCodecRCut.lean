/-
  The contract of the specification's Cut. Condition: at most 1000000 bytes.
-/
import Derived.Test.YtelddbgnhfhkiabDoorCodecSplit
set_option linter.unusedVariables false
set_option linter.unusedSimpArgs false
set_option linter.unnecessarySimpa false
namespace Go.Proofs.YtelddbgnhfhkiabDoor
open Go.RowKit Go.PlainAid

theorem extract_ofL (s : ByteArray) (i j : Nat) (h : j ≤ s.size) : s.extract i j = ofL ((s.data.toList.drop i).take (j - i)) := by
  have h1 := Lib.extract_toList s i j
  rw [← Lib.mk_data (s.extract i j), ← Lib.toList_data, h1]
  rfl
theorem pieces_step (s : ByteArray) (b : UInt8) (f i : Nat) (hf : f ≤ i) (hi : i < s.size) (hb : chr s i = b) (hn : ∀ j, f ≤ j → j < i → chr s j ≠ b) :
    pieces b (s.data.toList.drop f) = ((s.data.toList.drop f).take (i - f)) :: pieces b (s.data.toList.drop (i + 1)) := by
  have hg : ∀ j, j < s.size → s.data.toList[j]? = some (chr s j) := fun j hj => by
    unfold chr
    rw [List.getD_eq_getElem?_getD, List.getElem?_eq_getElem (by simpa using hj)]; rfl
  rw [pieces_hit b _ (i - f) ?_ ?_]
  · rw [List.drop_drop]
    congr 3; omega
  · rw [List.getElem?_drop, show f + (i - f) = i by omega, hg i hi, hb]
  · intro j hj
    rw [List.getElem?_drop, hg (f + j) (by omega)]
    intro e
    exact hn (f + j) (by omega) (by omega) (by simpa using e)
theorem pieces_last (s : ByteArray) (b : UInt8) (f : Nat) (hn : ∀ j, f ≤ j → j < s.size → chr s j ≠ b) : pieces b (s.data.toList.drop f) = [s.data.toList.drop f] := by
  refine pieces_miss b _ fun j => ?_
  rw [List.getElem?_drop]
  intro e
  obtain ⟨h1, h2⟩ := List.getElem?_eq_some_iff.1 e
  have hlt : f + j < s.size := by simpa using h1
  refine hn (f + j) (by omega) hlt ?_
  unfold chr
  rw [List.getD_eq_getElem?_getD, e]; rfl

def RCutPost (s : ByteArray) (b : UInt8) (w : World) (e : Ending) (w' : World) : Prop :=
  ∃ v, e = .returned v ∧ w'.ownsRow w.heap.size 9 1 v (pieces b s.data.toList).length (scells ((pieces b s.data.toList).map ofL)) ∧ Below w.heap.size w w'

set_option maxRecDepth 100000 in
set_option maxHeartbeats 4000000 in
theorem rcut_s (s : ByteArray) (b : UInt8) (x : Int) (w : World) (hs : s.size ≤ 1000000) (hx : x = (b.toNat : Int)) :
    Calls Tryd.prog 28 #[.string s, .int .u8 x] w (RCutPost s b w) := by
  have hb := get_bt s
  have HX := Lib.hid hx; clear hx
  go_enter Tryd.func28, Tryd.ntmps28
  go_wp2
  go_loopw [5, 6, 7] (fun lv fv iv wr => ∃ (i f : Nat) (out : List (List UInt8)), i ≤ s.size ∧ f ≤ i ∧ fv = .int .i64 f ∧ iv = .int .i64 i ∧ out.length ≤ i ∧ Hid (∀ j, f ≤ j → j < i → chr s j ≠ b) ∧
      Hid (pieces b s.data.toList = out ++ pieces b (s.data.toList.drop f)) ∧ wr.ownsRow w.heap.size 9 1 lv out.length (scells (out.map ofL)) ∧ Below w.heap.size w wr)
    (fun _ _ iv _ => s.size - (intOf iv).toNat)
  case atStart => exact ⟨0, 0, [], Nat.zero_le _, Nat.zero_le _, rfl, rfl, by simp, Lib.hid (fun j _ hj => absurd hj (Nat.not_lt_zero _)), Lib.hid rfl, World.ownsRow_nil _ _ _ _, Below.refl _ _⟩
  case round =>
    obtain ⟨i, f, out, hi, hf, rfl, rfl, hol, HN, HU, hown, hbel⟩ := hrel
    by_cases hlt : i < s.size
    · have HC := Lib.hid (bt_chr s i)
      cases c0 : (bt s i == x)
      · have HNB := Lib.hid (show chr s i ≠ b from fun e => by
          have h1 : bt s i = x := by rw [HC.out, e, HX.out]
          rw [h1] at c0; simp at c0)
        go_wp2
        go_roundw
        case rel => exact ⟨i + 1, f, out, by omega, by omega, rfl, by go_num, by omega, Lib.hid (fun j h1 h2 => if e : j = i then by rw [e]; exact HNB.out else HN.out j h1 (by omega)), HU, hown, hbel⟩
        case measure => simp [intOf]; omega
      · have HB := Lib.hid (show chr s i = b by
          have h1 : bt s i = x := beq_iff_eq.1 c0
          exact UInt8.toNat_inj.1 (by have := HC.out; have := HX.out; omega))
        have HST := Lib.hid (pieces_step s b f i hf hlt HB.out HN.out)
        have hex := extract_ofL s f i (by omega)
        have hcells : scells ((out ++ [(s.data.toList.drop f).take (i - f)]).map ofL) = scells (out.map ofL) ++ [.string (ofL ((s.data.toList.drop f).take (i - f)))] := by simp [scells]
        have HCE := Lib.hid hcells; clear hcells
        go_wp2_with (at_builtin; go_must (refine push_str _ hown (.tmp 19) (.tmp 24) _ ?_ ?_ ?_ ?_ ?_ ?_ ?_; exact rfl; exact rfl; exact rfl; exact rfl; omega; exact hbel.size; intro v' w1 hown1 hb1))
        go_roundw
        case rel => exact ⟨i + 1, i + 1, out ++ [(s.data.toList.drop f).take (i - f)], by omega, Nat.le_refl _, by go_num, by go_num, by simp; omega, Lib.hid (fun j h1 h2 => absurd h1 (by omega)), Lib.hid (by rw [HU.out, HST.out]; simp), by rw [HCE.out, List.length_append]; exact hown1, hbel.trans hb1⟩
        case measure => simp [intOf]; omega
    · have hie : i = s.size := by omega
      have HST := Lib.hid (pieces_last s b f (fun j h1 h2 => HN.out j h1 (by omega)))
      have hex := Lib.extract_from s f
      have hcells : scells ((out ++ [s.data.toList.drop f]).map ofL) = scells (out.map ofL) ++ [.string (dr s f)] := by simp [scells, ofL, dr]
      have HCE := Lib.hid hcells; clear hcells
      have hfs : f ≤ s.size := by omega
      clear hie
      go_wp2_with (at_builtin; go_must (refine push_str _ hown (.tmp 28) (.tmp 32) _ ?_ ?_ ?_ ?_ ?_ ?_ ?_; exact rfl; exact rfl; exact rfl; exact rfl; omega; exact hbel.size; intro v' w1 hown1 hb1))
      go_ret
      have e1 : pieces b s.data.toList = out ++ [s.data.toList.drop f] := by rw [HU.out, HST.out]
      refine ⟨_, rfl, ?_, hbel.trans hb1⟩
      rw [e1, HCE.out, List.length_append]
      exact hown1

end Go.Proofs.YtelddbgnhfhkiabDoor
