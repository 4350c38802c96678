/-
  Contracts of Under in the program and in the specification. Condition: at most 1000000 bytes.
-/
import Derived.Test.YtdjhhofmlefaaaaDoorNamU
set_option linter.unusedVariables false
set_option linter.unusedSimpArgs false
set_option linter.unnecessarySimpa false
namespace Go.Proofs.YtdjhhofmlefaaaaDoor
open Go.RowKit Go.PlainAid

set_option maxRecDepth 100000 in
set_option maxHeartbeats 4000000 in
theorem under_s (s b : ByteArray) (w : World) (hs : s.size ≤ 1000000) (hb0 : b.size ≤ 1000000) :
    Calls Tryd.prog 30 #[.string s, .string b] w fun e w' => e = .returned (.bool (underB s b)) ∧ Below w.heap.size w w' := by
  have h8 := compsV_few s
  have h9 := compsV_few b
  have HU := Lib.hid (show underB s b = (normB s && normB b && sufB (compsV b) (compsV s)) from rfl)
  go_enter Tryd.func30, Tryd.ntmps30
  go_wp2_with fail
  refine (components_s s _ hs).mono ?_
  rintro e w1 ⟨v, rfl, hown, hb1⟩
  obtain ⟨ao, cap, rfl, hat⟩ := pairs_own hown rfl
  go_wp2_with fail
  refine (components_s b _ hb0).mono ?_
  rintro e w2 ⟨v, rfl, hown2, hb2⟩
  obtain ⟨bo, dap, rfl, hat2⟩ := pairs_own hown2 rfl
  have L2 := below_next hb1 hb2
  have HA := Lib.hid (hat.below hb2)
  have HA2 := Lib.hid hat2
  clear hown hown2 hat hat2
  generalize compsV s = l at *
  generalize compsV b = m at *
  cases c1 : normB s
  · rw [c1] at HU
    have HF := Lib.hid (show underB s b = false from HU.out)
    clear c1
    generalize normB b = nb
    go_wp2
    go_ret
    exact ⟨by rw [HF.out]; rfl, L2⟩
  · cases c2 : normB b
    · rw [c1, c2] at HU
      have HF := Lib.hid (show underB s b = false from HU.out)
      clear c1 c2
      go_wp2
      go_ret
      exact ⟨by rw [HF.out]; rfl, L2⟩
    · rw [c1, c2] at HU
      have HF := Lib.hid (show underB s b = sufB m l from HU.out)
      clear c1 c2
      go_wp2_with fail
      refine (shared_s ao bo _ cap _ dap l m _ HA.out HA2.out (by omega) (by omega)).mono ?_
      rintro e w3 ⟨k, rfl, hk, hb3⟩
      have q : ((k : Int) == (m.length : Int)) = sufB m l := by
        rw [hk.suf, Bool.eq_iff_iff, beq_iff_eq, decide_eq_true_eq]; omega
      clear hk
      go_wp2
      go_ret
      exact ⟨by rw [HF.out, ← q]; rfl, below_next L2 hb3⟩

theorem own_some {w : World} {base n cap size : Nat} {e : TypeId} {ao : Option Addr} {xs : List Value} (h : w.ownsRow base e size (.slice ao n cap) n xs) (hc : 0 < cap) : ∃ g, ao = some ⟨g, 0, none⟩ := by
  rcases h.2 with ⟨h1, _⟩ | ⟨g, c2, cur, h1, _⟩
  · cases h1; omega
  · cases h1; exact ⟨g, rfl⟩

set_option maxRecDepth 100000 in
set_option maxHeartbeats 4000000 in
theorem runder_s (s b : ByteArray) (w : World) (hs : s.size ≤ 1000000) (hb0 : b.size ≤ 1000000) :
    Calls Tryd.prog 31 #[.string s, .string b] w fun e w' => e = .returned (.bool (underB s b)) ∧ Below w.heap.size w w' := by
  have h8 := compsV_few s
  have h9 := compsV_few b
  have hsm := small_comps s
  have HU := Lib.hid (show underB s b = (normB s && normB b && sufB (compsV b) (compsV s)) from rfl)
  have HEQ := Lib.hid (show normB s = true → normB b = true → (compsV b).length ≤ (compsV s).length → sufB (compsV b) (compsV s) = decide (fmtV ((compsV s).drop ((compsV s).length - (compsV b).length)) = b) from fun n1 n2 hle => by
    unfold sufB
    rw [decide_eq_true hle, Bool.true_and, Bool.eq_iff_iff, decide_eq_true_eq, decide_eq_true_eq]
    exact ⟨fun e => by rw [e]; exact (comps_norm n2).2, fun e => fmt_inj ((comps_norm n1).1.drop _) (comps_norm n2).1 (by rw [e, (comps_norm n2).2])⟩)
  go_enter Tryd.func31, Tryd.ntmps31
  go_wp2_with fail
  refine (rparts_s s _ hs).mono ?_
  rintro e w1 ⟨v, rfl, hown, hb1⟩
  obtain ⟨ao, cap, rfl, hat⟩ := pairs_own hown rfl
  go_wp2_with fail
  refine (rparts_s b _ hb0).mono ?_
  rintro e w2 ⟨v, rfl, hown2, hb2⟩
  obtain ⟨bo, dap, rfl, hat2⟩ := pairs_own hown2 rfl
  have L2 := below_next hb1 hb2
  have HA := Lib.hid (hat.below hb2)
  have HO := Lib.hid (fun h => own_some hown h)
  have hcap := hat.2.1
  have hmax := hat.2.2.1
  clear hown hown2 hat hat2
  generalize compsV s = l at *
  generalize compsV b = m at *
  cases c1 : normB s
  · rw [c1] at HU
    have HF := Lib.hid (show underB s b = false from HU.out)
    clear c1 HEQ
    generalize normB b = nb
    go_wp2
    go_ret
    exact ⟨by rw [HF.out]; rfl, L2⟩
  · cases c2 : normB b
    · rw [c1, c2] at HU
      have HF := Lib.hid (show underB s b = false from HU.out)
      clear c1 c2 HEQ
      go_wp2
      go_ret
      exact ⟨by rw [HF.out]; rfl, L2⟩
    · rw [c1, c2] at HU
      have HF := Lib.hid (show underB s b = sufB m l from HU.out)
      by_cases hlt : l.length < m.length
      · have HF2 := Lib.hid (show underB s b = false by rw [HF.out]; unfold sufB; rw [decide_eq_false (by omega)]; rfl)
        have d1 : decide ((l.length : Int) < (m.length : Int)) = true := decide_eq_true (by omega)
        clear c1 c2 HEQ
        go_wp2
        go_ret
        exact ⟨by rw [HF2.out]; rfl, L2⟩
      · have hle : m.length ≤ l.length := by omega
        have HF2 := Lib.hid (show underB s b = decide (fmtV (l.drop (l.length - m.length)) = b) by rw [HF.out, HEQ.out c1 c2 hle])
        have d1 : decide ((l.length : Int) < (m.length : Int)) = false := decide_eq_false (by omega)
        obtain ⟨k, hk⟩ : ∃ k, l.length - m.length = k := ⟨_, rfl⟩
        have kk : (l.length : Int) - (m.length : Int) = (k : Int) := by omega
        have hkl : k ≤ l.length := by omega
        rw [hk] at HF2
        obtain ⟨d, hd⟩ : ∃ d, l.drop k = d := ⟨_, rfl⟩
        rw [hd] at HF2
        have hsm2 : Small d := by rw [← hd]; exact small_drop hsm k
        have hq := str_eq (fmtV d) b
        rw [← HF2.out] at hq
        unfold maxLen at hmax
        have k0 : (0 : Int) ≤ (k : Int) := by omega
        have k1 : (k : Int) ≤ (cap : Int) := by omega
        have k2 : (k : Int) ≤ (l.length : Int) := by omega
        by_cases hc : cap = k
        · have hnn : l.length - k = 0 := by omega
          have hd0 : d = [] := by rw [← hd]; exact List.drop_eq_nil_of_le (by omega)
          have HD := Lib.hid (fun (W : World) (bo : Option Addr) (c : Nat) (hc : c ≤ maxLen) => show PairsAt W bo 0 c d by rw [hd0]; exact pairs_nil W bo c hc)
          clear c1 c2 HEQ hd hd0
          go_wp2_with fail
          refine (rformat_s ao 0 0 d _ (HD.out _ ao 0 (Nat.zero_le _)) hsm2).mono ?_
          rintro e w3 ⟨rfl, hb3⟩
          generalize fmtE d = e0
          go_wp2
          go_ret
          exact ⟨by rw [← hq]; rfl, below_next L2 hb3⟩
        · obtain ⟨g, rfl⟩ := HO.out (by omega)
          have HT := HA.out.tail k hkl
          rw [hd, Nat.zero_add] at HT
          clear c1 c2 HEQ hd
          go_wp2_with fail
          refine (rformat_s _ _ _ d _ HT hsm2).mono ?_
          rintro e w3 ⟨rfl, hb3⟩
          generalize fmtE d = e0
          go_wp2
          go_ret
          exact ⟨by rw [← hq]; rfl, below_next L2 hb3⟩

end Go.Proofs.YtdjhhofmlefaaaaDoor
