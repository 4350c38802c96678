/-
  Contracts of name.Parse and of the specification's Parse. Condition: at most 1000000 bytes.
-/
import Derived.Test.YtdjhhofmlefaaaaDoorNamS
set_option linter.unusedVariables false
set_option linter.unusedSimpArgs false
set_option linter.unnecessarySimpa false
namespace Go.Proofs.YtdjhhofmlefaaaaDoor
open Go.RowKit Go.PlainAid

/-- what is known between two pieces -/
def PAt (s u : ByteArray) (done : List ByteArray) (more : Bool) : Prop := firstE done = 0 ∧ piecesS s = done ++ (if more then (pieces 44 u.data.toList).map ofB else [])
theorem pAt_start (s : ByteArray) {m : Bool} (h : m = !(s.toList.isEmpty)) : PAt s s [] m := by
  refine ⟨rfl, ?_⟩
  rw [Lib.toList_data] at h
  unfold piecesS
  cases e : s.data.toList with
  | nil => rw [e] at h; rw [if_pos (by rw [Lib.size_eq, e]; rfl), h]; rfl
  | cons a l => rw [e] at h; rw [if_neg (by rw [Lib.size_eq, e]; simp), h]; rfl
theorem pieces_u (u : ByteArray) : (pieces 44 u.data.toList).map ofB = cutA 44 u :: (if cutF 44 u then (pieces 44 (cutZ 44 u).data.toList).map ofB else []) := by
  rw [pieces_cut, List.map_cons, ← Lib.size_eq]
  unfold cutF cutZ
  by_cases h : nextP 44 u.data.toList < u.size
  · rw [if_pos h, decide_eq_true h, if_pos rfl, if_pos h]; rfl
  · rw [if_neg h, decide_eq_false h, if_neg (by decide)]; rfl
theorem pAt_err {s u : ByteArray} {done : List ByteArray} (h : PAt s u done true) (he : compE (cutA 44 u) ≠ 0) : parseE s = compE (cutA 44 u) ∧ parseV s = [] := by
  obtain ⟨h1, h2⟩ := h
  rw [if_pos rfl, pieces_u] at h2
  have h3 : firstE (piecesS s) = compE (cutA 44 u) := by
    rw [h2, firstE_app _ _ h1]; unfold firstE; rw [if_neg he]
  have h4 : parseE s = compE (cutA 44 u) := by unfold parseE; rw [h3, if_neg he]
  exact ⟨h4, by unfold parseV; rw [h4, if_neg he]⟩
theorem pAt_next {s u : ByteArray} {done : List ByteArray} (h : PAt s u done true) (he : compE (cutA 44 u) = 0) : PAt s (cutZ 44 u) (done ++ [cutA 44 u]) (cutF 44 u) := by
  obtain ⟨h1, h2⟩ := h
  refine ⟨?_, ?_⟩
  · rw [firstE_app _ _ h1]; unfold firstE; rw [if_pos he]; rfl
  · rw [h2, if_pos rfl, pieces_u]; simp
theorem pAt_end {s u : ByteArray} {done : List ByteArray} (h : PAt s u done false) : (done.length ≤ 8 → parseE s = 0 ∧ parseV s = done.map compV) ∧ (8 < done.length → parseE s = 3 ∧ parseV s = []) := by
  obtain ⟨h1, h2⟩ := h
  rw [if_neg (by decide), List.append_nil] at h2
  refine ⟨fun hl => ?_, fun hl => ?_⟩
  · have h3 : parseE s = 0 := by unfold parseE; rw [h2, if_pos h1, if_neg (by omega)]
    exact ⟨h3, by unfold parseV; rw [if_pos h3, h2]⟩
  · have h3 : parseE s = 3 := by unfold parseE; rw [h2, if_pos h1, if_pos hl]
    exact ⟨h3, by unfold parseV; rw [h3]; rfl⟩
theorem cutZ_less {u : ByteArray} (h : cutF 44 u = true) : (cutZ 44 u).size + 1 ≤ u.size := by
  have h1 := of_decide_eq_true h
  unfold cutZ; rw [if_pos h1, dr_size]; omega
theorem compR_ok {p : ByteArray} (h : compE p = 0) : compR p = compV p := by unfold compR; rw [if_pos h]
theorem cutA_nocut (u : ByteArray) : nocut 44 (cutA 44 u).data.toList := nocut_take 44 (by decide) u.data.toList

/-- what Parse returns: a value that owns the components, and the error -/
def ParsePost (s : ByteArray) (w : World) (e : Ending) (w' : World) : Prop :=
  ∃ v, e = .returned (.tuple #[v, .int .i64 (parseE s)]) ∧ w'.ownsRow w.heap.size 36 2 v (parseV s).length (pcells (parseV s)) ∧ Below w.heap.size w w'

set_option maxRecDepth 100000 in
set_option maxHeartbeats 4000000 in
theorem parse_s (s : ByteArray) (w : World) (hs : s.size ≤ 1000000) :
    Calls Tryd.prog 13 #[.string s] w (ParsePost s w) := by
  obtain ⟨m0, hm0⟩ : ∃ m : Bool, m = !(s.toList.isEmpty) := ⟨_, rfl⟩
  have HM := Lib.hid (pAt_start s hm0)
  have hm1 : (!(s.toList.isEmpty)) = m0 := hm0.symm
  clear hm0
  go_enter Tryd.func13, Tryd.ntmps13
  go_wp2
  go_loopw [0, 4, 5] (fun sv lv mv wr => ∃ (u : ByteArray) (done : List ByteArray) (more : Bool), sv = .string u ∧ mv = .bool more ∧ u.size ≤ s.size ∧
      wr.ownsRow w.heap.size 36 2 lv ((done.map compV).take 9).length (pcells ((done.map compV).take 9)) ∧ Below w.heap.size w wr ∧ Hid (PAt s u done more))
    (fun sv _ mv _ => Lib.strSize sv + boolN mv)
  case atStart => exact ⟨s, [], m0, rfl, rfl, Nat.le_refl _, World.ownsRow_nil _ _ _ _, Below.refl _ _, HM⟩
  case round =>
    obtain ⟨u, done, more, rfl, rfl, hu, hown, hbel, HP⟩ := hrel
    obtain ⟨out, hout⟩ : ∃ out, out = (done.map compV).take 9 := ⟨_, rfl⟩
    rw [← hout] at hown
    have hol : min 9 done.length = out.length := by rw [hout, List.length_take, List.length_map]
    have HO := Lib.hid hout; clear hout
    obtain ⟨ao, cap, rfl⟩ := own_slice hown
    cases more
    · by_cases h8 : done.length ≤ 8
      · have HF := Lib.hid ((pAt_end HP.out).1 h8)
        have hd : decide ((8 : Int) < (out.length : Int)) = false := decide_eq_false (by omega)
        have HO2 := Lib.hid (show parseV s = out by rw [HF.out.2, HO.out, List.take_of_length_le (by rw [List.length_map]; omega)])
        go_wp2
        go_ret2
        exact ⟨_, by rw [HF.out.1]; rfl, by rw [HO2.out]; exact hown, hbel⟩
      · have HF := Lib.hid ((pAt_end HP.out).2 (by omega))
        have hd : decide ((8 : Int) < (out.length : Int)) = true := decide_eq_true (by omega)
        go_wp2
        go_ret2
        exact ⟨_, by rw [HF.out.1]; rfl, by rw [HF.out.2]; exact World.ownsRow_nil _ _ _ _, hbel⟩
    · have hz1 := cutA_size 44 u
      have hz2 := cutZ_size 44 u
      have HN := Lib.hid (cutA_nocut u)
      go_wp2_with fail
      refine (cut_s u 44 44 _ (by omega) rfl).mono ?_
      rintro e w1 ⟨rfl, hb1⟩
      have L1 := hbel.trans (hb1.mono hbel.size)
      have O1 := own_below hown hb1
      go_wp2_with fail
      refine (component_s (cutA 44 u) _ (by omega) HN.out).mono ?_
      rintro e w2 ⟨rfl, hb2⟩
      have L2 := L1.trans (hb2.mono L1.size)
      have O2 := own_below O1 hb2
      by_cases hE : compE (cutA 44 u) = 0
      · have HNX := Lib.hid (pAt_next HP.out hE)
        have hR := compR_ok hE
        rw [hE, hR]
        obtain ⟨⟨x, y⟩, hxy⟩ : ∃ p, p = compV (cutA 44 u) := ⟨_, rfl⟩
        rw [← hxy]
        have HXY := Lib.hid hxy
        have HLZ := Lib.hid (fun h => cutZ_less (u := u) h)
        clear hxy hR hE
        have hbx := pbox_new w2 (x, y)
        have hbl := below_new (w := w2) (.cells #[.string x, .string y] 36)
        have O3 := own_below O2 hbl
        have L3 := L2.trans (hbl.mono L2.size)
        obtain ⟨c0, c1⟩ := hbx.cells
        by_cases h9 : done.length ≤ 8
        · have hd : decide ((out.length : Int) ≤ 8) = true := decide_eq_true (by omega)
          have hcells : pcells (out ++ [(x, y)]) = pcells out ++ [.string x, .string y] := pcells_append _ _
          have HON := Lib.hid (show ((done ++ [cutA 44 u]).map compV).take 9 = out ++ [(x, y)] by
            rw [HO.out, HXY.out, List.map_append, List.take_of_length_le (by simp; omega), List.take_of_length_le (by simp; omega)]; rfl)
          go_wp2_with (at_builtin; go_must (refine push_pair _ O3 (.tmp 29) (.tmp 31) _ _ ?_ ?_ ?_ ?_ ?_ ?_ ?_; exact rfl; exact rfl; exact rfl; (rw [World.size_alloc]; exact rfl); omega; exact L3.size; intro v3 w3 hown3 hb3))
          go_roundw
          case rel => exact ⟨cutZ 44 u, done ++ [cutA 44 u], cutF 44 u, rfl, rfl, by omega, by rw [HON.out, hcells, List.length_append]; exact hown3, L3.trans hb3, HNX⟩
          case measure =>
            rw [Lib.strSize_string, Lib.strSize_string]
            cases hc : cutF 44 u
            · simp [boolN]; omega
            · have := HLZ.out hc; simp [boolN]; omega
        · have hd : decide ((out.length : Int) ≤ 8) = false := decide_eq_false (by omega)
          have HON := Lib.hid (show ((done ++ [cutA 44 u]).map compV).take 9 = out by
            rw [HO.out, List.map_append, List.take_append_of_le_length (by simp; omega)])
          go_wp2
          go_roundw
          case rel => exact ⟨cutZ 44 u, done ++ [cutA 44 u], cutF 44 u, rfl, rfl, by omega, by rw [HON.out]; exact O3, L3, HNX⟩
          case measure =>
            rw [Lib.strSize_string, Lib.strSize_string]
            cases hc : cutF 44 u
            · simp [boolN]; omega
            · have := HLZ.out hc; simp [boolN]; omega
      · have HF := Lib.hid (pAt_err HP.out hE)
        have q0 : (compE (cutA 44 u) != 0) = true := by simpa using hE
        clear hE
        generalize compE (cutA 44 u) = k at q0 HF ⊢
        generalize compR (cutA 44 u) = r
        go_wp2
        go_ret2
        exact ⟨_, by rw [HF.out.1]; rfl, by rw [HF.out.2]; exact World.ownsRow_nil _ _ _ _, L2.trans ((below_new _).mono L2.size)⟩

set_option maxRecDepth 100000 in
set_option maxHeartbeats 4000000 in
theorem rparse_s (s : ByteArray) (w : World) (hs : s.size ≤ 1000000) :
    Calls Tryd.prog 14 #[.string s] w (ParsePost s w) := by
  obtain ⟨m0, hm0⟩ : ∃ m : Bool, m = !(s.toList.isEmpty) := ⟨_, rfl⟩
  have HM := Lib.hid (pAt_start s hm0)
  have hm1 : (!(s.toList.isEmpty)) = m0 := hm0.symm
  clear hm0
  go_enter Tryd.func14, Tryd.ntmps14
  go_wp2
  go_loopw [4, 5, 6] (fun lv sv mv wr => ∃ (u : ByteArray) (done : List ByteArray) (more : Bool), sv = .string u ∧ mv = .bool more ∧ u.size ≤ s.size ∧ done.length + (if more then u.size + 1 else 0) ≤ s.size + 1 ∧
      wr.ownsRow w.heap.size 36 2 lv (done.map compV).length (pcells (done.map compV)) ∧ Below w.heap.size w wr ∧ Hid (PAt s u done more))
    (fun _ sv mv _ => Lib.strSize sv + boolN mv)
  case atStart => exact ⟨s, [], m0, rfl, rfl, Nat.le_refl _, by simp; split <;> omega, World.ownsRow_nil _ _ _ _, Below.refl _ _, HM⟩
  case round =>
    obtain ⟨u, done, more, rfl, rfl, hu, hdl, hown, hbel, HP⟩ := hrel
    obtain ⟨out, hout⟩ : ∃ out, out = done.map compV := ⟨_, rfl⟩
    rw [← hout] at hown
    have hol : done.length = out.length := by rw [hout, List.length_map]
    have HO := Lib.hid hout; clear hout
    obtain ⟨ao, cap, rfl⟩ := own_slice hown
    cases more
    · by_cases h8 : done.length ≤ 8
      · have HF := Lib.hid ((pAt_end HP.out).1 h8)
        have hd : decide ((8 : Int) < (out.length : Int)) = false := decide_eq_false (by omega)
        have HO2 := Lib.hid (show parseV s = out by rw [HF.out.2, HO.out])
        go_wp2
        go_ret2
        exact ⟨_, by rw [HF.out.1]; rfl, by rw [HO2.out]; exact hown, hbel⟩
      · have HF := Lib.hid ((pAt_end HP.out).2 (by omega))
        have hd : decide ((8 : Int) < (out.length : Int)) = true := decide_eq_true (by omega)
        go_wp2
        go_ret2
        exact ⟨_, by rw [HF.out.1]; rfl, by rw [HF.out.2]; exact World.ownsRow_nil _ _ _ _, hbel⟩
    · rw [if_pos rfl] at hdl
      have hz1 := cutA_size 44 u
      have hz2 := cutZ_size 44 u
      have hk := nextP_le 44 u.data.toList
      rw [← Lib.size_eq] at hk
      obtain ⟨k, hkk⟩ : ∃ k, nextP 44 u.data.toList = k := ⟨_, rfl⟩
      rw [hkk] at hk
      have he1 : u.extract 0 k = cutA 44 u := by rw [extract_tk, ← hkk]; rfl
      have hF0 : cutF 44 u = decide (k < u.size) := by unfold cutF; rw [hkk]
      have hZ0 : k < u.size → cutZ 44 u = u.extract (k + 1) u.size := fun h => by unfold cutZ; rw [hkk, if_pos h]; exact (Lib.extract_from u (k + 1)).symm
      go_wp2_with fail
      refine (next_s u 44 44 _ (by omega) rfl).mono ?_
      rintro e w1 ⟨rfl, rfl⟩
      rw [hkk]
      clear hkk
      go_wp2_with fail
      refine (rcomponent_s (cutA 44 u) _ (by omega)).mono ?_
      rintro e w2 ⟨rfl, hb2⟩
      have L2 := hbel.trans (hb2.mono hbel.size)
      have O2 := own_below hown hb2
      by_cases hE : compE (cutA 44 u) = 0
      · have HNX := Lib.hid (pAt_next HP.out hE)
        have hR := compR_ok hE
        rw [hE, hR]
        obtain ⟨⟨x, y⟩, hxy⟩ : ∃ p, p = compV (cutA 44 u) := ⟨_, rfl⟩
        rw [← hxy]
        have HXY := Lib.hid hxy
        have HLZ := Lib.hid (fun h => cutZ_less (u := u) h)
        clear hxy hR hE
        have hbx := pbox_new w2 (x, y)
        have hbl := below_new (w := w2) (.cells #[.string x, .string y] 36)
        have O3 := own_below O2 hbl
        have L3 := L2.trans (hbl.mono L2.size)
        obtain ⟨c0, c1⟩ := hbx.cells
        have hcells : pcells (out ++ [(x, y)]) = pcells out ++ [.string x, .string y] := pcells_append _ _
        have HON := Lib.hid (show (done ++ [cutA 44 u]).map compV = out ++ [(x, y)] by rw [HO.out, HXY.out, List.map_append]; rfl)
        by_cases hlt : k < u.size
        · rw [decide_eq_true hlt] at hF0
          have HF := Lib.hid hF0
          have HZ := Lib.hid (hZ0 hlt)
          clear hF0 hZ0
          have hd2 : decide ((k : Int) < (u.size : Int)) = true := decide_eq_true (by omega)
          go_wp2_with (at_builtin; go_must (refine push_pair _ O3 (.tmp 26) (.tmp 28) _ _ ?_ ?_ ?_ ?_ ?_ ?_ ?_; exact rfl; exact rfl; exact rfl; (rw [World.size_alloc]; exact rfl); omega; exact L3.size; intro v3 w3 hown3 hb3))
          go_roundw
          case rel =>
            rw [HF.out] at HNX
            exact ⟨cutZ 44 u, done ++ [cutA 44 u], true, by rw [HZ.out], rfl, by omega, by have := HLZ.out HF.out; simp; omega, by rw [HON.out, hcells, List.length_append]; exact hown3, L3.trans hb3, HNX⟩
          case measure =>
            have h1 := HLZ.out HF.out
            rw [HZ.out] at h1
            rw [Lib.strSize_string, Lib.strSize_string]
            simp [boolN] at h1 ⊢; omega
        · rw [decide_eq_false hlt] at hF0
          have HF := Lib.hid hF0
          clear hF0 hZ0
          have hd2 : decide ((k : Int) < (u.size : Int)) = false := decide_eq_false (by omega)
          go_wp2_with (at_builtin; go_must (refine push_pair _ O3 (.tmp 26) (.tmp 28) _ _ ?_ ?_ ?_ ?_ ?_ ?_ ?_; exact rfl; exact rfl; exact rfl; (rw [World.size_alloc]; exact rfl); omega; exact L3.size; intro v3 w3 hown3 hb3))
          go_roundw
          case rel =>
            rw [HF.out] at HNX
            exact ⟨u, done ++ [cutA 44 u], false, rfl, rfl, by omega, by simp; omega, by rw [HON.out, hcells, List.length_append]; exact hown3, L3.trans hb3, ⟨HNX.out.1, HNX.out.2⟩⟩
          case measure => rw [Lib.strSize_string]; simp [boolN]
      · have HF := Lib.hid (pAt_err HP.out hE)
        have q0 : (compE (cutA 44 u) != 0) = true := by simpa using hE
        clear hE
        generalize compE (cutA 44 u) = k at q0 HF ⊢
        generalize compR (cutA 44 u) = r
        go_wp2
        go_ret2
        exact ⟨_, by rw [HF.out.1]; rfl, by rw [HF.out.2]; exact World.ownsRow_nil _ _ _ _, L2.trans ((below_new _).mono L2.size)⟩

end Go.Proofs.YtdjhhofmlefaaaaDoor
