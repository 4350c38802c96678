/-
  Contracts of the specification's Check, Add and Replace. Condition: as Sorted's, with room for more values.
-/
import Derived.Test.YtahpocpagidahaaAttR5
import Derived.Test.YtahpocpagidahaaAttCk
set_option linter.unusedVariables false
set_option linter.unusedSimpArgs false
set_option linter.unnecessarySimpa false
namespace Go.Proofs.Ytahpocpagidahaa
open Go.RowKit Go.PlainAid

/-- a list and values that the edits take -/
structure Edit (l : List At) (vs : List ByteArray) : Prop where
  small : SmallA l
  tot : sumV l ≤ 40000
  len : l.length ≤ 900
  vsmall : SmallS vs
  vlen : vs.length ≤ 10000
theorem Edit.few {l : List At} {vs : List ByteArray} (h : Edit l vs) : Few l := ⟨h.small, by have := h.tot; omega, by have := h.len; omega⟩
theorem Edit.room {l : List At} {vs : List ByteArray} (h : Edit l vs) : Room l vs := ⟨h.small, by have := h.tot; have := h.vlen; omega, by have := h.len; omega, h.vsmall⟩
theorem small_app {a b : List ByteArray} (h : SmallS a) (k : SmallS b) : SmallS (a ++ b) := fun v hv => (List.mem_append.1 hv).elim (h v) (k v)
theorem Edit.more {l : List At} {vs : List ByteArray} (h : Edit l vs) (lw : ByteArray) : Room l (vals l lw ++ vs) :=
  ⟨h.small, by have h1 := h.tot; have h2 := h.vlen; have h3 := vals_len l lw; rw [List.length_append]; omega, by have := h.len; omega, small_app (vals_small h.small lw) h.vsmall⟩
def addR (l : List At) (name : ByteArray) (vs : List ByteArray) : List At × Int :=
  if nameB name = false then ([], 5) else if vs.length = 0 then ([], 6) else if chkV vs (vals l (lowS name)) ≠ 0 then ([], chkV vs (vals l (lowS name))) else limR (withL l name (vals l (lowS name) ++ vs)) (vals l (lowS name) ++ vs).length
def repR (l : List At) (name : ByteArray) (vs : List ByteArray) : List At × Int :=
  if nameB name = false then ([], 5) else if chkV vs [] ≠ 0 then ([], chkV vs []) else limR (withL l name vs) vs.length
theorem strs_nil (w : World) : StrsAt w none 0 0 [] := ⟨rfl, Nat.le_refl _, by unfold maxLen; omega, fun h => absurd h (Nat.lt_irrefl _)⟩
theorem chk_cases (vs old : List ByteArray) : chkV vs old = 0 ∨ chkV vs old = 4 ∨ chkV vs old = 7 := by
  unfold chkV
  generalize vs.length = n
  induction n with
  | zero => exact .inl rfl
  | succ n ih =>
    unfold firstE
    split
    · unfold errV
      split
      · exact .inr (.inl rfl)
      · split
        · exact .inr (.inr rfl)
        · exact .inl rfl
    · exact ih

set_option maxRecDepth 100000 in
set_option maxHeartbeats 4000000 in
theorem rrep_s (ao vo : Option Addr) (n cap vn vc : Nat) (l : List At) (name : ByteArray) (vs : List ByteArray) (w : World) (h : AttrsAt w ao n cap l) (hv : StrsAt w vo vn vc vs) (hF : Edit l vs) (hns : name.size ≤ 1000000) :
    Calls Try.prog 34 #[.slice ao n cap, .string name, .slice vo vn vc] w fun e w' => ∃ v, e = .returned (.tuple #[v, .int .i64 (repR l name vs).2]) ∧ AttsR w' v (repR l name vs).1 ∧ Below w.heap.size w w' := by
  have HA := Lib.hid h
  have HV := Lib.hid hv
  have HC := Lib.hid (rcheckV_s vo none vn 0 vc 0 vs [] w hv (strs_nil w) hF.vsmall)
  have HF := Lib.hid hF
  clear h hv hF
  cases hnm : nameB name with
  | false =>
    have HL := Lib.hid (show repR l name vs = ([], 5) from if_pos hnm)
    go_enter Try.func34, Try.ntmps34
    go_wp2_with (go_at_call 39; refine (rName_s name _ (by omega)).mono ?_; rintro e w' ⟨rfl, rfl⟩; rw [hnm])
    go_ret2
    exact ⟨_, by rw [HL.out]; rfl, by rw [HL.out]; exact atts_nil _, Below.refl _ _⟩
  | true =>
    obtain ⟨c, hc⟩ : ∃ x, chkV vs [] = x := ⟨_, rfl⟩
    rw [hc] at HC
    by_cases h0 : c = 0
    · subst h0
      have HL := Lib.hid (show repR l name vs = limR (withL l name vs) vs.length by unfold repR; rw [if_neg (by rw [hnm]; simp), if_neg (by rw [hc]; simp)])
      clear hc
      go_enter Try.func34, Try.ntmps34
      go_wp2_with (go_at_call 39; refine (rName_s name _ (by omega)).mono ?_; rintro e w' ⟨rfl, rfl⟩; rw [hnm])
      refine HC.out.mono ?_
      rintro e w1 ⟨rfl, hb⟩
      have HW := Lib.hid (rwith_s ao vo n cap vn vc l name vs w1 (HA.out.below hb) (HV.out.below hb) HF.out.room hns)
      have HB := Lib.hid hb
      clear hb HC
      go_wp2_with fail
      refine HW.out.mono ?_
      rintro e w2 ⟨v, rfl, hR, hb⟩
      go_wp2_with fail
      go_ret2
      exact ⟨_, by rw [HL.out]; rfl, by rw [HL.out]; exact hR, HB.out.trans (hb.mono HB.out.size)⟩
    · have HL := Lib.hid (show repR l name vs = ([], c) by unfold repR; rw [if_neg (by rw [hnm]; simp), hc, if_pos h0])
      have q1 : (c != 0) = true := by simpa using h0
      clear hc
      go_enter Try.func34, Try.ntmps34
      go_wp2_with (go_at_call 39; refine (rName_s name _ (by omega)).mono ?_; rintro e w' ⟨rfl, rfl⟩; rw [hnm])
      refine HC.out.mono ?_
      rintro e w1 ⟨rfl, hb⟩
      go_wp2_with fail
      go_ret2
      exact ⟨_, by rw [HL.out]; rfl, by rw [HL.out]; exact atts_nil _, hb⟩

set_option maxRecDepth 100000 in
set_option maxHeartbeats 4000000 in
theorem radd_s (ao vo : Option Addr) (n cap vn vc : Nat) (l : List At) (name : ByteArray) (vs : List ByteArray) (w : World) (h : AttrsAt w ao n cap l) (hv : StrsAt w vo vn vc vs) (hF : Edit l vs) (hns : name.size ≤ 1000000) :
    Calls Try.prog 30 #[.slice ao n cap, .string name, .slice vo vn vc] w fun e w' => ∃ v, e = .returned (.tuple #[v, .int .i64 (addR l name vs).2]) ∧ AttsR w' v (addR l name vs).1 ∧ Below w.heap.size w w' := by
  have hvl : vs.length = vn := hv.1
  have HA := Lib.hid h
  have HV := Lib.hid hv
  have HG := Lib.hid (rget_s ao n cap l name w h hF.few hns)
  have HF := Lib.hid hF
  clear h hv hF
  cases hnm : nameB name with
  | false =>
    have HL := Lib.hid (show addR l name vs = ([], 5) from if_pos hnm)
    go_enter Try.func30, Try.ntmps30
    go_wp2_with (go_at_call 39; refine (rName_s name _ (by omega)).mono ?_; rintro e w' ⟨rfl, rfl⟩; rw [hnm])
    go_ret2
    exact ⟨_, by rw [HL.out]; rfl, by rw [HL.out]; exact atts_nil _, Below.refl _ _⟩
  | true =>
    by_cases hz : vn = 0
    · have HL := Lib.hid (show addR l name vs = ([], 6) by unfold addR; rw [if_neg (by rw [hnm]; simp), if_pos (by omega)])
      have q0 : ((vn : Int) == 0) = true := by simpa using hz
      clear hz hvl
      go_enter Try.func30, Try.ntmps30
      go_wp2_with (go_at_call 39; refine (rName_s name _ (by omega)).mono ?_; rintro e w' ⟨rfl, rfl⟩; rw [hnm])
      go_ret2
      exact ⟨_, by rw [HL.out]; rfl, by rw [HL.out]; exact atts_nil _, Below.refl _ _⟩
    · have q0 : ((vn : Int) == 0) = false := by simpa using hz
      obtain ⟨old, hold⟩ : ∃ x, vals l (lowS name) = x := ⟨_, rfl⟩
      have hol : old.length ≤ 40000 := by rw [← hold]; exact Nat.le_trans (vals_len _ _) HF.out.tot
      have HRM := Lib.hid (HF.out.more (lowS name))
      obtain ⟨c, hc⟩ : ∃ x, chkV vs old = x := ⟨_, rfl⟩
      have HL0 := Lib.hid (show addR l name vs = if c ≠ 0 then ([], c) else limR (withL l name (old ++ vs)) (old ++ vs).length by unfold addR; rw [if_neg (by rw [hnm]; simp), if_neg (by omega), hold, hc])
      rw [hold] at HG HRM
      clear hold hz
      have hvn : vn ≤ 10000 := by rw [← hvl]; exact HF.out.vlen
      go_enter Try.func30, Try.ntmps30
      go_wp2_with (go_at_call 39; refine (rName_s name _ (by omega)).mono ?_; rintro e w' ⟨rfl, rfl⟩; rw [hnm])
      refine HG.out.mono ?_
      rintro e w1 ⟨v, rfl, ⟨xo, xn, xc, rfl, hx⟩, hb⟩
      have HX := Lib.hid hx
      have HB := Lib.hid hb
      have hxl : old.length = xn := hx.1
      have HC := Lib.hid (rcheckV_s vo xo vn xn vc xc vs old w1 (HV.out.below hb) hx HF.out.vsmall)
      rw [hc] at HC
      clear hx hb HG hc
      go_wp2_with fail
      refine HC.out.mono ?_
      rintro e w2 ⟨rfl, hb⟩
      have HB2 := Lib.hid (HB.out.trans (hb.mono HB.out.size))
      have HX2 := Lib.hid (HX.out.below hb)
      clear hb HC HX
      by_cases h0 : c = 0
      · subst h0
        have HL := Lib.hid (show addR l name vs = limR (withL l name (old ++ vs)) (old ++ vs).length by rw [HL0.out, if_neg (by simp)])
        clear HL0
        have hown0 : (w2.alloc (.cells #[] 9)).ownsRow w.heap.size 9 1 (.slice (some ⟨w2.heap.size, 0, none⟩) 0 0) 0 [] := World.ownsRow_made w2 #[] 0 HB2.out.size (by unfold maxLen; omega) rfl
        have HB3 := Lib.hid (HB2.out.alloc (HB2.out.size) (.cells #[] 9))
        have HX3 := Lib.hid (HX2.out.below ((Below.refl _ w2).alloc (Nat.le_refl _) (.cells #[] 9)))
        have hsz3 := HB3.out.size
        have tok : True := trivial
        go_wp2_with (first
          | (at_builtin; have _t := tok; go_must (refine push_strs (w2.alloc (.cells #[] 9)) hown0 (.tmp 27) (.tmp 28) HX3.out ?_ ?_ ?_ ?_ ?_ ?_ ?_; exact rfl; exact rfl; exact rfl; exact rfl; omega; exact hsz3; intro v3 w3 hown3 hg3 hl3; clear tok; have HB4 := Lib.hid (HB3.out.grown hg3 hsz3 (fun q hq => (hown0.lt q hq).1)); have hsz4 := HB4.out.size; have HV4 := Lib.hid (HV.out.below HB4.out)))
          | (at_builtin; go_must (refine push_strs w3 hown3 (.tmp 29) (.tmp 30) HV4.out ?_ ?_ ?_ ?_ ?_ ?_ ?_; exact rfl; exact rfl; exact rfl; exact rfl; omega; exact hsz4; intro v5 w5 hown5 hg5 hl5)))
        have hown6 : w5.ownsRow w.heap.size 9 1 v5 (old ++ vs).length (scells (old ++ vs)) := by
          have e1 : (old ++ vs).length = 0 + xn + vn := by rw [List.length_append]; omega
          have e2 : scells (old ++ vs) = [] ++ scells old ++ scells vs := by unfold scells; rw [List.map_append]; rfl
          rw [e1, e2]; exact hown5
        have hb5 := HB4.out.grown hg5 hsz4 (fun q hq => (hown3.lt q hq).1)
        obtain ⟨yo, yc, rfl, hy⟩ := strs_own hown6 rfl
        have HW := Lib.hid (rwith_s ao yo n cap _ yc l name (old ++ vs) w5 (HA.out.below hb5) hy HRM.out hns)
        have HB5 := Lib.hid hb5
        clear hown6 hown5 hy hb5 hg5 hl5 hown3 hg3 hl3
        go_wp2_with fail
        refine HW.out.mono ?_
        rintro e w6 ⟨v, rfl, hR, hb⟩
        go_wp2_with fail
        go_ret2
        have he : (old ++ vs).length = xn + vn := by rw [List.length_append]; omega
        exact ⟨_, by rw [HL.out, he]; rfl, by rw [HL.out]; exact hR, HB5.out.trans (hb.mono HB5.out.size)⟩
      · have HL := Lib.hid (show addR l name vs = ([], c) by rw [HL0.out, if_pos h0])
        have q1 : (c != 0) = true := by simpa using h0
        go_wp2_with fail
        go_ret2
        exact ⟨_, by rw [HL.out]; rfl, by rw [HL.out]; exact atts_nil _, HB2.out⟩

end Go.Proofs.Ytahpocpagidahaa
