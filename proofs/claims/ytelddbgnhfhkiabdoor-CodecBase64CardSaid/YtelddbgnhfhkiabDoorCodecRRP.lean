/-
  Contracts of the specification's First and ReadPairs. Condition: at most 1000000 bytes.
-/
import Derived.Test.YtelddbgnhfhkiabDoorCodecRCut2
import Derived.Test.YtelddbgnhfhkiabDoorCodecPQ
set_option linter.unusedVariables false
set_option linter.unusedSimpArgs false
set_option linter.unnecessarySimpa false
namespace Go.Proofs.YtelddbgnhfhkiabDoor
open Go.RowKit Go.PlainAid

/-- the place of the first byte b, or -1 -/
def firstS (s : ByteArray) (b : UInt8) : Int := if cutOk s ⟨#[b]⟩ then ((cutBef s ⟨#[b]⟩).size : Int) else -1
theorem chr_get (s : ByteArray) (j : Nat) (h : j < s.size) : s.data.toList[j]? = some (chr s j) := by
  unfold chr
  rw [List.getD_eq_getElem?_getD, List.getElem?_eq_getElem (by simpa using h)]; rfl
theorem first_hit (s : ByteArray) (b : UInt8) (i : Nat) (h : i < s.size) (hb : chr s i = b) (hn : ∀ j, j < i → chr s j ≠ b) : firstS s b = (i : Int) := by
  have hp := pieces_hit b s.data.toList i (by rw [chr_get s i h, hb]) (fun j hj => by
    rw [chr_get s j (by omega)]
    intro e
    exact hn j hj (by simpa using e))
  unfold firstS
  rcases cut_one s b with k | k
  · have k2 := k.2.1
    rw [hp] at k2
    injection k2 with h1 h2
    rw [if_pos k.1, Lib.size_eq, ← h1, List.length_take, ← Lib.size_eq]
    omega
  · have k2 := k.2.1
    rw [hp] at k2
    injection k2 with h1 h2
    exact absurd h2 (pieces_ne b _)
theorem first_miss (s : ByteArray) (b : UInt8) (hn : ∀ j, j < s.size → chr s j ≠ b) : firstS s b = -1 := by
  have hp := pieces_miss b s.data.toList (fun j => by
    intro e
    obtain ⟨h1, h2⟩ := List.getElem?_eq_some_iff.1 e
    have hlt : j < s.size := by simpa using h1
    refine hn j hlt ?_
    rw [chr_get s j hlt] at e
    simpa using e)
  unfold firstS
  rcases cut_one s b with k | k
  · have k2 := k.2.1
    rw [hp] at k2
    injection k2 with h1 h2
    exact absurd h2.symm (pieces_ne b _)
  · rw [k.1]; rfl

set_option maxRecDepth 100000 in
set_option maxHeartbeats 1000000 in
theorem first_s (s : ByteArray) (b : UInt8) (x : Int) (w : World) (hs : s.size ≤ 1000000000) (hx : x = (b.toNat : Int)) :
    Calls Tryd.prog 29 #[.string s, .int .u8 x] w fun e w' => e = .returned (.int .i64 (firstS s b)) ∧ w = w' := by
  have hb := get_bt s
  have HX := Lib.hid hx; clear hx
  go_enter Tryd.func29, Tryd.ntmps29
  go_wp2
  go_loop [5] (fun i => ∃ k : Nat, k ≤ s.size ∧ i = .int .i64 k ∧ Hid (∀ j, j < k → chr s j ≠ b)) (fun i => s.size - (intOf i).toNat)
  case atStart => exact ⟨0, Nat.zero_le _, rfl, Lib.hid fun j hj => absurd hj (Nat.not_lt_zero _)⟩
  case round =>
    obtain ⟨k, hk, rfl, HA⟩ := hrel
    by_cases hlt : k < s.size
    · have HC := Lib.hid (bt_chr s k)
      cases c1 : (bt s k == x)
      · have HN := Lib.hid (show chr s k ≠ b by
          intro e
          have h1 : bt s k = x := by rw [HC.out, e, HX.out]
          exact beq_eq_false_iff_ne.1 c1 h1)
        go_wp2
        go_round
        case rel =>
          exact ⟨k + 1, by omega, by go_num, Lib.hid fun j hj => if e : j = k then by rw [e]; exact HN.out else HA.out j (by omega)⟩
        case measure => simp [intOf]; omega
      · have HE := Lib.hid (show firstS s b = (k : Int) from first_hit s b k hlt (by
          have h2 : bt s k = x := beq_iff_eq.1 c1
          exact UInt8.toNat_inj.1 (by have := HC.out; have := HX.out; omega)) HA.out)
        go_wp2
        go_ret
        exact ⟨by rw [HE.out]; rfl, rfl⟩
    · have HE := Lib.hid (show firstS s b = -1 from first_miss s b fun j hj => HA.out j (by omega))
      go_wp2
      go_ret
      exact ⟨by rw [HE.out]; rfl, rfl⟩

theorem readPr_step (ps : List (List UInt8)) (k : Nat) (h : k < ps.length) : readPr (ps.drop k) = match rpO (partAt (ps.map ofL) k) with
    | some x => (readPr (ps.drop (k + 1))).map (x :: ·)
    | none => none := by
  have e : partAt (ps.map ofL) k = ofL ps[k] := by
    unfold partAt
    rw [List.getD_eq_getElem?_getD, List.getElem?_map, List.getElem?_eq_getElem h]; rfl
  rw [e, List.drop_eq_getElem_cons h]
  conv => lhs; unfold readPr
  cases rpO (ofL ps[k]) <;> rfl
theorem cut_bef (p : ByteArray) (h : cutOk p ⟨#[61]⟩ = true) : p.extract 0 (cutBef p ⟨#[61]⟩).size = cutBef p ⟨#[61]⟩ := by
  rw [Lib.extract_upto, cut_form p 61 h, Lib.size_eq (cutBef p ⟨#[61]⟩), List.take_left]
theorem cut_aft (p : ByteArray) (h : cutOk p ⟨#[61]⟩ = true) : p.extract ((cutBef p ⟨#[61]⟩).size + 1) p.size = cutAft p ⟨#[61]⟩ := by
  rw [Lib.extract_from, cut_form p 61 h, Lib.size_eq (cutBef p ⟨#[61]⟩)]
  rw [show (cutBef p ⟨#[61]⟩).data.toList ++ 61 :: (cutAft p ⟨#[61]⟩).data.toList = ((cutBef p ⟨#[61]⟩).data.toList ++ [61]) ++ (cutAft p ⟨#[61]⟩).data.toList by simp]
  rw [show (cutBef p ⟨#[61]⟩).data.toList.length + 1 = ((cutBef p ⟨#[61]⟩).data.toList ++ [61]).length by simp, List.drop_left]
theorem cut_sizes (p : ByteArray) (h : cutOk p ⟨#[61]⟩ = true) : (cutBef p ⟨#[61]⟩).size + 1 + (cutAft p ⟨#[61]⟩).size = p.size := by
  have := congrArg List.length (cut_form p 61 h)
  rw [List.length_append, List.length_cons, ← Lib.size_eq, ← Lib.size_eq, ← Lib.size_eq] at this
  omega

set_option maxRecDepth 100000 in
set_option maxHeartbeats 8000000 in
theorem rreadPairs_s (s : ByteArray) (w : World) (hs : s.size ≤ 1000000) :
    Calls Tryd.prog 9 #[.string s] w (RPsPost s w) := by
  by_cases h0 : s.data.toList = []
  · have HE := Lib.hid (show rpsS s = [] ∧ rpsE s = 0 by unfold rpsS rpsE rpsL; rw [if_pos h0]; exact ⟨rfl, rfl⟩)
    obtain rfl : s = ⟨#[]⟩ := by rw [← Lib.mk_data s, h0]
    clear h0
    go_enter Tryd.func9, Tryd.ntmps9
    go_wp2
    go_ret2
    exact ⟨_, by rw [HE.out.2]; rfl, by rw [HE.out.1]; exact World.ownsRow_nil _ _ _ _, Below.refl _ _⟩
  · have HS := Lib.hid (show rpsL s.data.toList = readPr (pieces 124 s.data.toList) by unfold rpsL; rw [if_neg h0])
    have e1 : s.toList.isEmpty = false := by
      rw [Lib.toList_data]
      cases h : s.data.toList with
      | nil => exact absurd h h0
      | cons _ _ => rfl
    have e1b : (s.toList == []) = false := by rw [Lib.toList_data]; simpa using h0
    clear h0
    go_enter Tryd.func9, Tryd.ntmps9
    go_wp2_with fail
    refine (rcut_at s 124 124 _ hs rfl).mono ?_
    rintro e w1 ⟨⟨ao, cap, rfl, K⟩, hb⟩
    have hcnt := pieces_count 124 s.data.toList
    have hmem := pieces_mem 124 s.data.toList
    rw [← Lib.size_eq] at hcnt
    obtain ⟨ps, hps⟩ : ∃ ps, ps = pieces 124 s.data.toList := ⟨_, rfl⟩
    rw [← hps] at K hcnt hmem HS ⊢
    have HM := Lib.hid hmem; clear hmem hps
    have hl : (ps.map ofL).length = ps.length := by simp
    obtain ⟨qs, hqs⟩ : ∃ qs, qs = ps.map ofL := ⟨_, rfl⟩
    rw [← hqs] at K hl ⊢
    have HQ := Lib.hid hqs; clear hqs
    obtain ⟨k1, k2, k3, k4⟩ := K
    unfold maxLen at k3
    have K4 := Lib.hid k4; clear k4 k1
    go_wp2_with fail
    go_loopw [5, 6] (fun lv iv wr => ∃ (k : Nat) (out : List Pr), k ≤ qs.length ∧ iv = .int .i64 k ∧ out.length = k ∧ Hid (rpsL s.data.toList = (readPr (ps.drop k)).map (out ++ ·)) ∧
        wr.ownsRow w1.heap.size 49 2 lv out.length (pcells out) ∧ Below w1.heap.size w1 wr)
      (fun _ iv _ => qs.length - (intOf iv).toNat)
    case atStart => exact ⟨0, [], Nat.zero_le _, rfl, rfl, Lib.hid (by rw [HS.out]; simp), World.ownsRow_nil _ _ _ _, Below.refl _ _⟩
    case round =>
      obtain ⟨k, out, hk, rfl, hol, HU, hown, hbl⟩ := hrel
      have hbel : Below w.heap.size w wr := hb.trans (hbl.mono hb.size)
      by_cases hlt : k < qs.length
      · obtain ⟨bb, off, rfl, hst⟩ := K4.out (by omega)
        have HCELL := Lib.hid (show ∀ w', Below w1.heap.size w1 w' → w'.cell? ⟨bb, off + k, none⟩ = some (.string (partAt qs k)) from fun w' h => (hst.below h hst.1).2 k hlt)
        clear hst
        have hsz : (partAt qs k).size ≤ 1000000 := by
          rw [HQ.out]
          unfold partAt
          rw [List.getD_eq_getElem?_getD, List.getElem?_map, List.getElem?_eq_getElem (show k < ps.length by omega)]
          have := HM.out ps[k] (List.getElem_mem (show k < ps.length by omega))
          rw [← Lib.size_eq] at this
          show (ps[k]'(by omega)).length ≤ _
          omega
        have HST := Lib.hid (readPr_step ps k (by omega))
        rw [← HQ.out] at HST
        obtain ⟨p, hpe⟩ : ∃ p, p = partAt qs k := ⟨_, rfl⟩
        rw [← hpe] at HCELL hsz HST
        clear hpe
        have hcell := HCELL.out _ hbl
        cases hok : cutOk p ⟨#[61]⟩
        · have HO := Lib.hid (show rpO p = none by unfold rpO; rw [hok]; rfl)
          have HF := Lib.hid (show rpsL s.data.toList = none by rw [HU.out, HST.out, HO.out]; rfl)
          have HK := Lib.hid (show firstS p 61 = -1 by unfold firstS; rw [hok]; rfl)
          go_wp2_with (go_at_call 29; refine (first_s p 61 61 _ (by omega) rfl).mono ?_; rintro e w' ⟨rfl, rfl⟩; rw [HK.out])
          go_ret2
          have e1 : rpsS s = [] := by unfold rpsS; rw [HF.out]; rfl
          have e2 : rpsE s = 4 := by unfold rpsE; rw [HF.out]
          exact ⟨_, by rw [e2]; rfl, by rw [e1]; exact World.ownsRow_nil _ _ _ _, hbel⟩
        · have hz := cut_sizes p hok
          have hx1 := cut_bef p hok
          have hx2 := cut_aft p hok
          have HK := Lib.hid (show firstS p 61 = ((cutBef p ⟨#[61]⟩).size : Int) by unfold firstS; rw [hok]; rfl)
          have HO0 := Lib.hid (show rpO p = (match unesc (cutBef p ⟨#[61]⟩).data.toList with
            | some x => (match unesc (cutAft p ⟨#[61]⟩).data.toList with
              | some y => some (ofL x, ofL y)
              | none => none)
            | none => none) by
            unfold rpO; rw [hok, if_pos rfl]
            cases unesc (cutBef p ⟨#[61]⟩).data.toList with
            | none => rfl
            | some x => cases unesc (cutAft p ⟨#[61]⟩).data.toList <;> rfl)
          obtain ⟨bf, hbf⟩ : ∃ b, b = cutBef p ⟨#[61]⟩ := ⟨_, rfl⟩
          obtain ⟨af, haf⟩ : ∃ b, b = cutAft p ⟨#[61]⟩ := ⟨_, rfl⟩
          rw [← hbf] at hz hx1 hx2 HK HO0
          rw [← haf] at hz hx2 HO0
          clear hbf haf hok
          cases h1 : unesc bf.data.toList with
          | none =>
            have H1 := Lib.hid h1
            have HO := Lib.hid (show rpO p = none by rw [HO0.out, h1])
            clear h1
            cases h2 : unesc af.data.toList with
            | none =>
              have H2 := Lib.hid h2; clear h2
              have HF := Lib.hid (show rpsL s.data.toList = none by rw [HU.out, HST.out, HO.out]; rfl)
              go_wp2_with (go_at_call 29; refine (first_s p 61 61 _ (by omega) rfl).mono ?_; rintro e w' ⟨rfl, rfl⟩; rw [HK.out])
              refine (runescape_no' bf _ (by omega) H1.out).mono ?_
              rintro e w2 ⟨rfl, hb2⟩
              have hc2 := HCELL.out _ (hbl.trans (hb2.mono hbl.size))
              clear hcell
              go_wp2_with fail
              refine (runescape_no' af _ (by omega) H2.out).mono ?_
              rintro e w3 ⟨rfl, hb3⟩
              go_wp2_with fail
              go_ret2
              have e1 : rpsS s = [] := by unfold rpsS; rw [HF.out]; rfl
              have e2 : rpsE s = 4 := by unfold rpsE; rw [HF.out]
              exact ⟨_, by rw [e2]; rfl, by rw [e1]; exact World.ownsRow_nil _ _ _ _, hbel.trans ((hb2.mono hbel.size).trans (hb3.mono (Nat.le_trans hbel.size hb2.size)))⟩
            | some yl =>
              have H2 := Lib.hid h2; clear h2
              have HF := Lib.hid (show rpsL s.data.toList = none by rw [HU.out, HST.out, HO.out]; rfl)
              go_wp2_with (go_at_call 29; refine (first_s p 61 61 _ (by omega) rfl).mono ?_; rintro e w' ⟨rfl, rfl⟩; rw [HK.out])
              refine (runescape_no' bf _ (by omega) H1.out).mono ?_
              rintro e w2 ⟨rfl, hb2⟩
              have hc2 := HCELL.out _ (hbl.trans (hb2.mono hbl.size))
              clear hcell
              go_wp2_with fail
              refine (runescape_ok' af yl _ (by omega) H2.out).mono ?_
              rintro e w3 ⟨rfl, hb3⟩
              go_wp2_with fail
              go_ret2
              have e1 : rpsS s = [] := by unfold rpsS; rw [HF.out]; rfl
              have e2 : rpsE s = 4 := by unfold rpsE; rw [HF.out]
              exact ⟨_, by rw [e2]; rfl, by rw [e1]; exact World.ownsRow_nil _ _ _ _, hbel.trans ((hb2.mono hbel.size).trans (hb3.mono (Nat.le_trans hbel.size hb2.size)))⟩
          | some xl =>
            have H1 := Lib.hid h1
            cases h2 : unesc af.data.toList with
            | none =>
              have H2 := Lib.hid h2
              have HO := Lib.hid (show rpO p = none by rw [HO0.out, h1]; simp only []; rw [h2])
              clear h1 h2
              have HF := Lib.hid (show rpsL s.data.toList = none by rw [HU.out, HST.out, HO.out]; rfl)
              go_wp2_with (go_at_call 29; refine (first_s p 61 61 _ (by omega) rfl).mono ?_; rintro e w' ⟨rfl, rfl⟩; rw [HK.out])
              refine (runescape_ok' bf xl _ (by omega) H1.out).mono ?_
              rintro e w2 ⟨rfl, hb2⟩
              have hc2 := HCELL.out _ (hbl.trans (hb2.mono hbl.size))
              clear hcell
              go_wp2_with fail
              refine (runescape_no' af _ (by omega) H2.out).mono ?_
              rintro e w3 ⟨rfl, hb3⟩
              go_wp2_with fail
              go_ret2
              have e1 : rpsS s = [] := by unfold rpsS; rw [HF.out]; rfl
              have e2 : rpsE s = 4 := by unfold rpsE; rw [HF.out]
              exact ⟨_, by rw [e2]; rfl, by rw [e1]; exact World.ownsRow_nil _ _ _ _, hbel.trans ((hb2.mono hbel.size).trans (hb3.mono (Nat.le_trans hbel.size hb2.size)))⟩
            | some yl =>
              have H2 := Lib.hid h2
              have HO := Lib.hid (show rpO p = some (ofL xl, ofL yl) by rw [HO0.out, h1]; simp only []; rw [h2])
              have HX := Lib.hid (show Hid (rpsL s.data.toList = (readPr (ps.drop (k + 1))).map ((out ++ [(ofL xl, ofL yl)]) ++ ·)) from Lib.hid (by rw [HU.out, HST.out, HO.out]; simp only []; rw [Option.map_map]; congr 1; funext l; simp))
              clear h1 h2
              go_wp2_with (go_at_call 29; refine (first_s p 61 61 _ (by omega) rfl).mono ?_; rintro e w' ⟨rfl, rfl⟩; rw [HK.out])
              refine (runescape_ok' bf xl _ (by omega) H1.out).mono ?_
              rintro e w2 ⟨rfl, hb2⟩
              have hc2 := HCELL.out _ (hbl.trans (hb2.mono hbl.size))
              clear hcell
              go_wp2_with fail
              refine (runescape_ok' af yl _ (by omega) H2.out).mono ?_
              rintro e w3 ⟨rfl, hb3⟩
              have hbl3 := hbl.trans ((hb2.mono hbl.size).trans (hb3.mono (Nat.le_trans hbl.size hb2.size)))
              have hown3 := own_below (own_below hown hb2) hb3
              go_wp2_with (at_builtin; go_must (refine push_pair _ hown3 (.tmp 56) (.tmp 60) _ _ ?_ ?_ ?_ ?_ ?_ ?_ ?_; exact rfl; exact rfl; exact rfl; exact rfl; omega; exact hbl3.size; intro v4 w4 hown4 hb4))
              go_roundw
              case rel => exact ⟨k + 1, out ++ [(ofL xl, ofL yl)], by omega, by go_num, by simp; omega, HX.out, by rw [pcells_append, List.length_append]; exact hown4, hbl3.trans hb4⟩
              case measure => simp [intOf]; omega
      · have HF := Lib.hid (show rpsL s.data.toList = some out by rw [HU.out, List.drop_eq_nil_of_le (by omega)]; simp [readPr])
        have HE1 := Lib.hid (show rpsS s = out by unfold rpsS; rw [HF.out]; rfl)
        have HE2 := Lib.hid (show rpsE s = 0 by unfold rpsE; rw [HF.out])
        go_wp2
        go_ret2
        exact ⟨_, by rw [HE2.out]; rfl, by rw [HE1.out]; exact own_base hown hb.size, hbel⟩

end Go.Proofs.YtelddbgnhfhkiabDoor
