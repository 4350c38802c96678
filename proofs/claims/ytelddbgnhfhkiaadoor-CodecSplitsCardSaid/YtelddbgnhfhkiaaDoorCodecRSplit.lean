/-
  The contract of the specification's Split. Condition: at most 1000000 bytes.
-/
import Derived.Test.YtelddbgnhfhkiaaDoorCodecRCut
import Derived.Test.YtelddbgnhfhkiaaDoorCodecRUn
import Derived.Test.YtelddbgnhfhkiaaDoorCodecLive
set_option linter.unusedVariables false
set_option linter.unusedSimpArgs false
set_option linter.unnecessarySimpa false
namespace Go.Proofs.YtelddbgnhfhkiaaDoor
open Go.RowKit Go.PlainAid

theorem pieces_mem (b : UInt8) : ∀ (l p : List UInt8), p ∈ pieces b l → p.length ≤ l.length
  | [], p, h => by
    have : p = [] := by simpa [pieces] using h
    subst this; exact Nat.le_refl _
  | c :: l, p, h => by
    have ih := pieces_mem b l
    unfold pieces at h
    split at h
    · rcases List.mem_cons.1 h with h | h
      · subst h; simp
      · have := ih p h; simp; omega
    · split at h
      · rename_i q r hq
        rcases List.mem_cons.1 h with h | h
        · subst h
          have := ih q (by rw [hq]; simp)
          simp; exact this
        · have := ih p (by rw [hq]; simp [h])
          simp; omega
      · have : p = [c] := by simpa using h
        subst this; simp
theorem pieces_count (b : UInt8) : ∀ (l : List UInt8), (pieces b l).length ≤ l.length + 1
  | [] => by simp [pieces]
  | c :: l => by
    have ih := pieces_count b l
    unfold pieces
    split
    · simp; exact ih
    · split
      · rename_i q r hq
        rw [hq] at ih; simp at ih ⊢; omega
      · simp
theorem readAll_step (ps : List (List UInt8)) (k : Nat) (h : k < ps.length) : readAll (ps.drop k) = match unesc (partAt (ps.map ofL) k).data.toList with
    | some x => (readAll (ps.drop (k + 1))).map (x :: ·)
    | none => none := by
  have e : (partAt (ps.map ofL) k).data.toList = ps[k] := by
    unfold partAt
    rw [List.getD_eq_getElem?_getD, List.getElem?_map, List.getElem?_eq_getElem h]; rfl
  rw [e, List.drop_eq_getElem_cons h]
  conv => lhs; unfold readAll
  cases unesc ps[k] <;> rfl
theorem own_base {w : World} {B B' : Nat} {e size n : Nat} {v : Value} {xs : List Value} (h : w.ownsRow B' e size v n xs) (hB : B ≤ B') : w.ownsRow B e size v n xs := by
  refine ⟨h.1, ?_⟩
  rcases h.2 with h0 | ⟨g, cap, cur, hv, hb, rest⟩
  · exact .inl h0
  · exact .inr ⟨g, cap, cur, hv, Nat.le_trans hB hb, rest⟩
theorem runescape_no' (s : ByteArray) (w : World) (hs : s.size ≤ 1000000000) (h : unesc s.data.toList = none) :
    Calls Tryd.prog 37 #[.string s] w fun e w' => e = .returned (.tuple #[.string ⟨#[]⟩, .int .i64 4]) ∧ Below w.heap.size w w' :=
  (runescape_s s w hs).mono fun e w' k => ⟨by rw [k.1, (unS_none h).1, (unS_none h).2], k.2⟩
theorem runescape_ok' (s : ByteArray) (x : List UInt8) (w : World) (hs : s.size ≤ 1000000000) (h : unesc s.data.toList = some x) :
    Calls Tryd.prog 37 #[.string s] w fun e w' => e = .returned (.tuple #[.string (ofL x), .int .i64 0]) ∧ Below w.heap.size w w' :=
  (runescape_s s w hs).mono fun e w' k => ⟨by rw [k.1, (unS_some h).1, (unS_some h).2], k.2⟩
theorem rcut_at (s : ByteArray) (b : UInt8) (x : Int) (w : World) (hs : s.size ≤ 1000000) (hx : x = (b.toNat : Int)) :
    Calls Tryd.prog 74 #[.string s, .int .u8 x] w fun e w' => (∃ ao cap, e = .returned (.slice ao ((pieces b s.data.toList).map ofL).length cap) ∧ StrsAt w' ao ((pieces b s.data.toList).map ofL).length cap ((pieces b s.data.toList).map ofL)) ∧ Below w.heap.size w w' := by
  refine (rcut_s s b x w hs hx).mono fun e w' ⟨v, h1, h2, h3⟩ => ?_
  obtain ⟨ao, cap, rfl, h4⟩ := strs_own h2 (by simp)
  rw [List.length_map]
  exact ⟨⟨ao, cap, h1, h4⟩, h3⟩

set_option maxRecDepth 100000 in
set_option maxHeartbeats 4000000 in
theorem rsplit_s (s : ByteArray) (w : World) (hs : s.size ≤ 1000000) :
    Calls Tryd.prog 43 #[.string s] w (SplitPost s w) := by
  by_cases h1 : s.data.toList = [45]
  · have HE := Lib.hid (show splS s = [] ∧ splE s = 0 by unfold splS splE splitL; rw [if_pos h1]; exact ⟨rfl, rfl⟩)
    obtain rfl : s = ⟨#[45]⟩ := by rw [← Lib.mk_data s, h1]
    clear h1
    go_enter Tryd.func43, Tryd.ntmps43
    go_wp2
    go_ret2
    exact ⟨_, by rw [HE.out.2]; rfl, by rw [HE.out.1]; exact World.ownsRow_nil _ _ _ _, Below.refl _ _⟩
  · by_cases h2 : s.data.toList = [37, 50, 68]
    · have HE := Lib.hid (show splS s = [⟨#[45]⟩] ∧ splE s = 0 by unfold splS splE splitL; rw [if_neg h1, if_pos h2]; exact ⟨rfl, rfl⟩)
      obtain rfl : s = ⟨#[37, 50, 68]⟩ := by rw [← Lib.mk_data s, h2]
      clear h1 h2
      go_enter Tryd.func43, Tryd.ntmps43
      go_wp2
      go_ret2
      refine ⟨_, by rw [HE.out.2]; rfl, ?_, (Below.refl _ _).alloc (Nat.le_refl _) _⟩
      rw [HE.out.1]
      exact World.ownsRow_lit w #[.string ⟨#[45]⟩] 1 (Nat.le_refl _) (by unfold maxLen; omega) rfl
    · have HS := Lib.hid (show splitL s.data.toList = readAll (pieces 124 s.data.toList) by unfold splitL; rw [if_neg h1, if_neg h2])
      have e1 : (s.toList == [45]) = false := by rw [Lib.toList_data]; simpa using h1
      have e2 : (s.toList == [37, 50, 68]) = false := by rw [Lib.toList_data]; simpa using h2
      clear h1 h2
      go_enter Tryd.func43, Tryd.ntmps43
      go_wp2_with fail
      refine (rcut_at s 124 124 _ hs rfl).mono ?_
      rintro e w1 ⟨⟨ao, cap, rfl, K⟩, hb⟩
      have hcnt := pieces_count 124 s.data.toList
      have hmem := pieces_mem 124 s.data.toList
      rw [← Lib.size_eq] at hcnt
      obtain ⟨ps, hps⟩ : ∃ ps, ps = pieces 124 s.data.toList := ⟨_, rfl⟩
      rw [← hps] at K hcnt hmem HS ⊢
      have HM := Lib.hid hmem; clear hmem hps
      have hl : (ps.map ofL).length = ps.length := by simp
      obtain ⟨qs, hqs⟩ : ∃ qs, qs = ps.map ofL := ⟨_, rfl⟩
      rw [← hqs] at K hl ⊢
      have HQ := Lib.hid hqs; clear hqs
      obtain ⟨k1, k2, k3, k4⟩ := K
      unfold maxLen at k3
      have K4 := Lib.hid k4; clear k4 k1
      go_wp2_with fail
      go_loopw [5, 6] (fun lv iv wr => ∃ (k : Nat) (out : List (List UInt8)), k ≤ qs.length ∧ iv = .int .i64 k ∧ out.length = k ∧ Hid (splitL s.data.toList = (readAll (ps.drop k)).map (out ++ ·)) ∧
          wr.ownsRow w1.heap.size 9 1 lv out.length (scells (out.map ofL)) ∧ Below w1.heap.size w1 wr)
        (fun _ iv _ => qs.length - (intOf iv).toNat)
      case atStart => exact ⟨0, [], Nat.zero_le _, rfl, rfl, Lib.hid (by rw [HS.out]; simp), World.ownsRow_nil _ _ _ _, Below.refl _ _⟩
      case round =>
        obtain ⟨k, out, hk, rfl, hol, HU, hown, hbl⟩ := hrel
        have hbel : Below w.heap.size w wr := hb.trans (hbl.mono hb.size)
        by_cases hlt : k < qs.length
        · obtain ⟨bb, off, rfl, hst⟩ := K4.out (by omega)
          have hcell := (hst.below hbl hst.1).2 k hlt
          clear hst
          have hsz : (partAt qs k).size ≤ 1000000 := by
            rw [HQ.out]
            unfold partAt
            rw [List.getD_eq_getElem?_getD, List.getElem?_map, List.getElem?_eq_getElem (show k < ps.length by omega)]
            have := HM.out ps[k] (List.getElem_mem (show k < ps.length by omega))
            rw [← Lib.size_eq] at this
            show (ps[k]'(by omega)).length ≤ _
            omega
          have HST := Lib.hid (readAll_step ps k (by omega))
          rw [← HQ.out] at HST
          obtain ⟨p, hpe⟩ : ∃ p, p = partAt qs k := ⟨_, rfl⟩
          rw [← hpe] at hcell hsz HST
          clear hpe
          cases hun : unesc p.data.toList with
          | none =>
            have HF := Lib.hid (show splitL s.data.toList = none by rw [HU.out, HST.out, hun]; rfl)
            go_wp2_with (go_at_call 37; refine (runescape_no' p _ (by omega) hun).mono ?_; rintro e w2 ⟨rfl, hb2⟩)
            go_ret2
            have e1 : splS s = [] := by unfold splS; rw [HF.out]
            have e2 : splE s = 4 := by unfold splE; rw [HF.out]
            exact ⟨_, by rw [e2]; rfl, by rw [e1]; exact World.ownsRow_nil _ _ _ _, hbel.trans (hb2.mono hbel.size)⟩
          | some x =>
            have HX := Lib.hid (show splitL s.data.toList = (readAll (ps.drop (k + 1))).map ((out ++ [x]) ++ ·) by rw [HU.out, HST.out, hun]; simp only []; rw [Option.map_map]; congr 1; funext l; simp)
            have hcells : scells ((out ++ [x]).map ofL) = scells (out.map ofL) ++ [.string (ofL x)] := by simp [scells]
            have HCE := Lib.hid hcells; clear hcells
            have hcnt2 := hcnt
            go_wp2_with (first
              | (go_at_call 37; refine (runescape_ok' p x _ (by omega) hun).mono ?_; rintro e w2 ⟨rfl, hb2⟩; have hown2 := own_below hown hb2; have hbl2 := hbl.trans (hb2.mono hbl.size))
              | (at_builtin; go_must (refine push_str _ hown2 (.tmp 33) (.tmp 35) _ ?_ ?_ ?_ ?_ ?_ ?_ ?_; exact rfl; exact rfl; exact rfl; exact rfl; omega; exact hbl2.size; intro v3 w3 hown3 hb3)))
            go_roundw
            case rel => exact ⟨k + 1, out ++ [x], by omega, by go_num, by simp; omega, HX, by rw [HCE.out, List.length_append]; exact hown3, hbl2.trans hb3⟩
            case measure => simp [intOf]; omega
        · have HF := Lib.hid (show splitL s.data.toList = some out by rw [HU.out, List.drop_eq_nil_of_le (by omega)]; simp [readAll])
          have e1 : splS s = out.map ofL := by unfold splS; rw [HF.out]
          have e2 : splE s = 0 := by unfold splE; rw [HF.out]
          have HE1 := Lib.hid e1; clear e1
          have HE2 := Lib.hid e2; clear e2
          go_wp2
          go_ret2
          exact ⟨_, by rw [HE2.out]; rfl, by rw [HE1.out, List.length_map]; exact own_base hown hb.size, hbel⟩

end Go.Proofs.YtelddbgnhfhkiaaDoor
