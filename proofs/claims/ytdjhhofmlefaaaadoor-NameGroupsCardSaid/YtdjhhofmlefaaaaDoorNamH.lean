/-
  Contracts of Clean, Valid, Depth, Parent and of what returns the components of a normal form, in the program and in the specification. Condition: at most 1000000 bytes.
-/
import Derived.Test.YtdjhhofmlefaaaaDoorNamG
import Derived.Test.YtdjhhofmlefaaaaDoorNamC
import Derived.Test.YtdjhhofmlefaaaaDoorNamSame
set_option linter.unusedVariables false
set_option linter.unusedSimpArgs false
set_option linter.unnecessarySimpa false
namespace Go.Proofs.YtdjhhofmlefaaaaDoor
open Go.RowKit Go.PlainAid

theorem prE_small {p : Pr} (h : prE p = 0) : p.1.size ≤ 64 ∧ p.2.size ≤ 256 := by
  obtain ⟨h1, h2⟩ := (prE_zero p).1 h
  unfold nameB at h1
  unfold cleanB at h2
  simp only [Bool.and_eq_true, decide_eq_true_eq] at h1 h2
  exact ⟨h1.1.1.2, h2.1.1.1.2⟩
theorem small_fine {l : List Pr} (h : ∀ p ∈ l, prE p = 0) (h8 : l.length ≤ 8) : Small l := small_of l (by omega) fun p hp => by have := prE_small (h p hp); omega
theorem small_parse (s : ByteArray) : Small (parseV s) := by
  by_cases h : parseE s = 0
  · exact small_fine (parseV_ok h).1 (parseV_ok h).2
  · unfold parseV; rw [if_neg h]; exact ⟨by simp, fun j hj => by simp at hj⟩
theorem small_comps (s : ByteArray) : Small (compsV s) := by
  unfold compsV; split
  · exact small_parse s
  · exact ⟨by simp, fun j hj => by simp at hj⟩
theorem str_eq (a b : ByteArray) : (a.toList == b.toList) = decide (a = b) := by
  rw [Lib.toList_data, Lib.toList_data, Bool.eq_iff_iff, beq_iff_eq, decide_eq_true_eq]
  exact ⟨fun h => by rw [← Lib.mk_data a, ← Lib.mk_data b, h], fun h => by rw [h]⟩

/-- what returns the components: a value that owns them, and whether the string is in normal form -/
def CompsPost (s : ByteArray) (w : World) (e : Ending) (w' : World) : Prop :=
  ∃ v, e = .returned (.tuple #[v, .bool (normB s)]) ∧ w'.ownsRow w.heap.size 36 2 v (compsV s).length (pcells (compsV s)) ∧ Below w.heap.size w w'

set_option maxRecDepth 100000 in
set_option maxHeartbeats 2000000 in
theorem components_s (s : ByteArray) (w : World) (hs : s.size ≤ 1000000) :
    Calls Tryd.prog 51 #[.string s] w (CompsPost s w) := by
  go_enter Tryd.func51, Tryd.ntmps51
  go_wp2_with fail
  refine (parse_s s _ hs).mono ?_
  rintro e w1 ⟨v, rfl, hown, hb⟩
  by_cases hE : parseE s = 0
  · obtain ⟨ao, cap, rfl, hat⟩ := pairs_own hown rfl
    have hF := fmt_parse_ok hE
    rw [hE]
    go_wp2_with fail
    refine (format_s ao _ cap (parseV s) _ hat (small_parse s)).mono ?_
    rintro e w2 ⟨rfl, hb2⟩
    rw [hF]
    have hown2 := own_below hown hb2
    have L2 := hb.trans (hb2.mono hb.size)
    by_cases hq : fmtV (parseV s) = s
    · have HN := Lib.hid (show normB s = true from (norm_iff s).2 ⟨hE, hq⟩)
      have HV := Lib.hid (show compsV s = parseV s by unfold compsV; rw [HN.out]; rfl)
      have q1 : ((fmtV (parseV s)).toList == s.toList) = true := by rw [str_eq]; exact decide_eq_true hq
      have q2 : ((fmtV (parseV s)).toList != s.toList) = false := by unfold bne; rw [q1]; rfl
      clear hq hE hF
      go_wp2
      go_ret2
      exact ⟨_, by rw [HN.out]; rfl, by rw [HV.out]; exact hown2, L2⟩
    · have HN := Lib.hid (show normB s = false by rw [Bool.eq_false_iff]; intro e; exact hq ((norm_iff s).1 e).2)
      have q1 : ((fmtV (parseV s)).toList == s.toList) = false := by rw [str_eq]; exact decide_eq_false hq
      have q2 : ((fmtV (parseV s)).toList != s.toList) = true := by unfold bne; rw [q1]; rfl
      clear hq hE hF
      go_wp2
      go_ret2
      exact ⟨_, by rw [HN.out]; rfl, by rw [comps_none HN.out]; exact World.ownsRow_nil _ _ _ _, L2⟩
  · have HN := Lib.hid (show normB s = false by rw [Bool.eq_false_iff]; intro e; exact hE ((norm_iff s).1 e).1)
    have q0 : (parseE s != 0) = true := by simpa using hE
    clear hE
    generalize parseE s = k at q0 ⊢
    go_wp2
    go_ret2
    exact ⟨_, by rw [HN.out]; rfl, by rw [comps_none HN.out]; exact World.ownsRow_nil _ _ _ _, hb⟩

set_option maxRecDepth 100000 in
set_option maxHeartbeats 2000000 in
theorem clean0_s (s : ByteArray) (w : World) (hs : s.size ≤ 1000000) :
    Calls Tryd.prog 21 #[.string s] w fun e w' => e = .returned (.tuple #[.string (cleanV s), .int .i64 (cleanE s)]) ∧ Below w.heap.size w w' := by
  go_enter Tryd.func21, Tryd.ntmps21
  go_wp2_with fail
  refine (parse_s s _ hs).mono ?_
  rintro e w1 ⟨v, rfl, hown, hb⟩
  by_cases hE : parseE s = 0
  · obtain ⟨ao, cap, rfl, hat⟩ := pairs_own hown rfl
    have HV := Lib.hid (show cleanV s = fmtV (parseV s) ∧ cleanE s = fmtE (parseV s) by unfold cleanV cleanE; rw [if_pos hE, if_pos hE]; exact ⟨rfl, rfl⟩)
    rw [hE]
    clear hE
    go_wp2_with fail
    refine (format_s ao _ cap (parseV s) _ hat (small_parse s)).mono ?_
    rintro e w2 ⟨rfl, hb2⟩
    go_wp2
    go_ret2
    exact ⟨by rw [HV.out.1, HV.out.2]; rfl, hb.trans (hb2.mono hb.size)⟩
  · have HV := Lib.hid (show cleanV s = ByteArray.empty ∧ cleanE s = parseE s by unfold cleanV cleanE; rw [if_neg hE, if_neg hE]; exact ⟨rfl, rfl⟩)
    have q0 : (parseE s != 0) = true := by simpa using hE
    clear hE
    generalize parseE s = k at q0 HV ⊢
    go_wp2
    go_ret2
    exact ⟨by rw [HV.out.1, HV.out.2]; rfl, hb⟩
set_option maxRecDepth 100000 in
set_option maxHeartbeats 2000000 in
theorem rclean0_s (s : ByteArray) (w : World) (hs : s.size ≤ 1000000) :
    Calls Tryd.prog 22 #[.string s] w fun e w' => e = .returned (.tuple #[.string (cleanV s), .int .i64 (cleanE s)]) ∧ Below w.heap.size w w' := by
  go_enter Tryd.func22, Tryd.ntmps22
  go_wp2_with fail
  refine (rparse_s s _ hs).mono ?_
  rintro e w1 ⟨v, rfl, hown, hb⟩
  by_cases hE : parseE s = 0
  · obtain ⟨ao, cap, rfl, hat⟩ := pairs_own hown rfl
    have HV := Lib.hid (show cleanV s = fmtV (parseV s) ∧ cleanE s = fmtE (parseV s) by unfold cleanV cleanE; rw [if_pos hE, if_pos hE]; exact ⟨rfl, rfl⟩)
    rw [hE]
    clear hE
    go_wp2_with fail
    refine (rformat_s ao _ cap (parseV s) _ hat (small_parse s)).mono ?_
    rintro e w2 ⟨rfl, hb2⟩
    go_wp2
    go_ret2
    exact ⟨by rw [HV.out.1, HV.out.2]; rfl, hb.trans (hb2.mono hb.size)⟩
  · have HV := Lib.hid (show cleanV s = ByteArray.empty ∧ cleanE s = parseE s by unfold cleanV cleanE; rw [if_neg hE, if_neg hE]; exact ⟨rfl, rfl⟩)
    have q0 : (parseE s != 0) = true := by simpa using hE
    clear hE
    generalize parseE s = k at q0 HV ⊢
    go_wp2
    go_ret2
    exact ⟨by rw [HV.out.1, HV.out.2]; rfl, hb⟩

set_option maxRecDepth 100000 in
set_option maxHeartbeats 2000000 in
theorem valid_s (s : ByteArray) (w : World) (hs : s.size ≤ 1000000) :
    Calls Tryd.prog 19 #[.string s] w fun e w' => e = .returned (.bool (normB s)) ∧ Below w.heap.size w w' := by
  go_enter Tryd.func19, Tryd.ntmps19
  go_wp2_with fail
  refine (components_s s _ hs).mono ?_
  rintro e w1 ⟨v, rfl, hown, hb⟩
  go_wp2
  go_ret
  exact ⟨rfl, hb⟩
set_option maxRecDepth 100000 in
set_option maxHeartbeats 2000000 in
theorem rvalid_s (s : ByteArray) (w : World) (hs : s.size ≤ 1000000) :
    Calls Tryd.prog 24 #[.string s] w fun e w' => e = .returned (.bool (normB s)) ∧ Below w.heap.size w w' := by
  have HN := Lib.hid (norm_clean s)
  go_enter Tryd.func24, Tryd.ntmps24
  go_wp2_with fail
  refine (rclean0_s s _ hs).mono ?_
  rintro e w1 ⟨rfl, hb⟩
  by_cases hE : cleanE s = 0
  · have q1 := str_eq (cleanV s) s
    have q0 : (cleanE s == 0) = true := by simpa using hE
    cases c : decide (cleanV s = s)
    · rw [c] at q1 HN
      have HF := Lib.hid (show normB s = false by rw [HN.out]; simp)
      clear hE
      go_wp2
      go_ret
      exact ⟨by rw [HF.out]; rfl, hb⟩
    · rw [c] at q1 HN
      have HF := Lib.hid (show normB s = true by rw [HN.out, hE]; rfl)
      clear hE
      go_wp2
      go_ret
      exact ⟨by rw [HF.out]; rfl, hb⟩
  · have q0 : (cleanE s == 0) = false := by simpa using hE
    have HF := Lib.hid (show normB s = false by rw [HN.out, decide_eq_false hE]; rfl)
    clear hE
    go_wp2
    go_ret
    exact ⟨by rw [HF.out]; rfl, hb⟩
set_option maxRecDepth 100000 in
set_option maxHeartbeats 2000000 in
theorem rparts_s (s : ByteArray) (w : World) (hs : s.size ≤ 1000000) :
    Calls Tryd.prog 52 #[.string s] w (CompsPost s w) := by
  go_enter Tryd.func52, Tryd.ntmps52
  go_wp2_with fail
  refine (rvalid_s s _ hs).mono ?_
  rintro e w1 ⟨rfl, hb⟩
  cases c : normB s
  · have HN := Lib.hid c
    clear c
    go_wp2
    go_ret2
    exact ⟨_, by rw [HN.out]; rfl, by rw [comps_none HN.out]; exact World.ownsRow_nil _ _ _ _, hb⟩
  · have HN := Lib.hid c
    have HV := Lib.hid (show compsV s = parseV s by unfold compsV; rw [c]; rfl)
    clear c
    go_wp2_with fail
    refine (rparse_s s _ hs).mono ?_
    rintro e w2 ⟨v, rfl, hown, hb2⟩
    generalize parseE s = k
    go_wp2
    go_ret2
    exact ⟨_, by rw [HN.out]; rfl, by rw [HV.out]; exact own_base hown hb.size, hb.trans (hb2.mono hb.size)⟩

set_option maxRecDepth 100000 in
set_option maxHeartbeats 2000000 in
theorem depth_s (s : ByteArray) (w : World) (hs : s.size ≤ 1000000) :
    Calls Tryd.prog 20 #[.string s] w fun e w' => e = .returned (.int .i64 ((compsV s).length : Nat)) ∧ Below w.heap.size w w' := by
  go_enter Tryd.func20, Tryd.ntmps20
  go_wp2_with fail
  refine (components_s s _ hs).mono ?_
  rintro e w1 ⟨v, rfl, hown, hb⟩
  obtain ⟨ao, cap, rfl⟩ := own_slice hown
  go_wp2
  go_ret
  exact ⟨rfl, hb⟩
set_option maxRecDepth 100000 in
set_option maxHeartbeats 2000000 in
theorem rdepth_s (s : ByteArray) (w : World) (hs : s.size ≤ 1000000) :
    Calls Tryd.prog 29 #[.string s] w fun e w' => e = .returned (.int .i64 ((compsV s).length : Nat)) ∧ Below w.heap.size w w' := by
  go_enter Tryd.func29, Tryd.ntmps29
  go_wp2_with fail
  refine (rparts_s s _ hs).mono ?_
  rintro e w1 ⟨v, rfl, hown, hb⟩
  obtain ⟨ao, cap, rfl⟩ := own_slice hown
  go_wp2
  go_ret
  exact ⟨rfl, hb⟩

end Go.Proofs.YtdjhhofmlefaaaaDoor
