/-
  Contract of attrs.checkNew. Condition: at most 1000000 strings in each list, of at most 1000000 bytes.
-/
import Derived.Test.YtahpocpagidahaaAttSet
import Derived.Test.YtahpocpagidahaaAttChk
set_option linter.unusedVariables false
set_option linter.unusedSimpArgs false
set_option linter.unnecessarySimpa false
namespace Go.Proofs.Ytahpocpagidahaa
open Go.RowKit Go.PlainAid Go.Maps Go.ChangeMaps

theorem memB_app (a b : List ByteArray) (s : ByteArray) : memB (a ++ b) s = (memB a s || memB b s) := by unfold memB; rw [List.any_append]
theorem errV_form {vs old : List ByteArray} {j : Nat} {p : ByteArray} (hp : partAt vs j = p) : errV vs old j = if cleanB p = false then 4 else if memB (old ++ vs.take j) p = true then 7 else 0 := by
  unfold errV
  rw [hp, memB_app]
  cases cleanB p <;> cases memB old p <;> cases memB (vs.take j) p <;> simp

set_option maxRecDepth 100000 in
set_option maxHeartbeats 2000000 in
theorem checkNew_s (ao bo : Option Addr) (n m cap dap : Nat) (old vs : List ByteArray) (w : World) (h : StrsAt w ao n cap old) (k : StrsAt w bo m dap vs) (hn : n ≤ 1000000) (hm : m ≤ 1000000) (hS : SmallS old) (hV : SmallS vs) :
    Calls Try.prog 38 #[.slice ao n cap, .slice bo m dap] w fun e w' => e = .returned (.int .i64 (chkV vs old)) ∧ Below w.heap.size w w' := by
  have HO := Lib.hid (setOf_s ao n cap old w h hn hS)
  obtain ⟨k1, k2, k3, k4⟩ := k
  subst k1
  unfold maxLen at k3
  have K4 := Lib.hid k4; clear k4
  have HV := Lib.hid hV; clear hV
  go_enter Try.func38, Try.ntmps38
  go_wp2_with fail
  refine HO.out.mono ?_
  rintro e w1 ⟨rfl, ⟨D0, hG⟩, hb⟩
  have HG0 := Lib.hid hG
  have HB0 := Lib.hid hb
  clear hG hb HO
  go_wp2
  go_loopw [7, 12, 16, 20] (fun s i u v wr => ∃ (j : Nat) (D : DataW Unit), j ≤ vs.length ∧ i = .int .i64 j ∧ Hid (∀ q, q < j → errV vs old q = 0) ∧ Hid (SetM wr w.heap.size (n + j) D (old ++ vs.take j)) ∧ Hid (Below w.heap.size w wr)) (fun _ i _ _ _ => vs.length - (intOf i).toNat)
  case atStart => exact ⟨0, D0, Nat.zero_le _, rfl, Lib.hid (fun q hq => absurd hq (Nat.not_lt_zero _)), Lib.hid (by simpa using HG0.out), HB0⟩
  case round =>
    obtain ⟨j, D, hj, rfl, HA, HG, HB⟩ := hrel
    by_cases hlt : j < vs.length
    · obtain ⟨b, off, rfl, hs⟩ := K4.out (by omega)
      have hcell := (hs.below HB.out hs.1).2 j hlt
      clear hs
      obtain ⟨p, hpe⟩ : ∃ p, partAt vs j = p := ⟨_, rfl⟩
      have hps : p.size ≤ 1000000 := by rw [← hpe]; exact HV.out _ (part_mem vs j hlt)
      rw [hpe] at hcell
      have HF := Lib.hid (errV_form (vs := vs) (old := old) (j := j) hpe)
      have HT := Lib.hid (show old ++ vs.take (j + 1) = (old ++ vs.take j) ++ [p] by rw [← hpe, take_snoc vs j hlt, List.append_assoc])
      clear hpe
      have d1 : (j : Int) < (vs.length : Int) := by omega
      cases hc : cleanB p
      · have HR := Lib.hid (show chkV vs old = 4 by
          have e : errV vs old j = 4 := by rw [HF.out, if_pos hc]
          unfold chkV; rw [firstE_hit HA.out (by rw [e]; decide) hlt, e])
        have HCL := Lib.hid hc
        clear hc
        go_wp2_with (go_at_call 64; refine (clean_s p _ (by omega)).mono ?_; rintro e w' ⟨rfl, rfl⟩; rw [HCL.out])
        go_ret
        exact ⟨by rw [HR.out]; rfl, HB.out⟩
      · have HCL := Lib.hid hc
        clear hc
        have hlook := HG.out.look p (by unfold maxLen; omega)
        cases hm2 : memB (old ++ vs.take j) p
        · have HZ := Lib.hid (show errV vs old j = 0 by rw [HF.out, HCL.out, hm2]; simp)
          rw [hm2] at hlook
          clear hm2
          obtain ⟨w', hrun, HG', hgr⟩ := HG.out.store p (by unfold maxLen; omega) (by unfold maxLen; omega)
          have HG2 := Lib.hid HG'
          have HB2 := Lib.hid (HB.out.grown hgr (HB.out.size) (fun j hj => by cases hj; exact Nat.le_refl _))
          clear HG' hgr
          go_wp2_with (go_at_call 64; refine (clean_s p _ (by omega)).mono ?_; rintro e w' ⟨rfl, rfl⟩; rw [HCL.out])
          go_roundw
          case rel =>
            refine ⟨j + 1, _, by omega, by go_num, Lib.hid fun q hq => ?_, by rw [HT.out]; exact HG2, HB2⟩
            by_cases e : q = j
            · rw [e]; exact HZ.out
            · exact HA.out q (by omega)
          case measure => simp [intOf]; omega
        · have HR := Lib.hid (show chkV vs old = 7 by
            have e : errV vs old j = 7 := by rw [HF.out, HCL.out, hm2]; simp
            unfold chkV; rw [firstE_hit HA.out (by rw [e]; decide) hlt, e])
          rw [hm2] at hlook
          clear hm2
          go_wp2_with (go_at_call 64; refine (clean_s p _ (by omega)).mono ?_; rintro e w' ⟨rfl, rfl⟩; rw [HCL.out])
          go_ret
          exact ⟨by rw [HR.out]; rfl, HB.out⟩
    · have hke : j = vs.length := by omega
      subst hke
      have HR := Lib.hid (show chkV vs old = 0 from firstE_zero HA.out)
      go_wp2_with fail
      go_ret
      exact ⟨by rw [HR.out]; rfl, HB.out⟩

end Go.Proofs.Ytahpocpagidahaa
