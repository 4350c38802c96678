/-
  Proved: identitylaw15.CsnLattice returns true for every three lists of numbers (the tied card). No condition beyond the row's own.
-/
import Derived.Test.YtcnhkoijphfibaaDoorCsnLaws
set_option linter.unusedVariables false
set_option linter.unusedSimpArgs false
set_option linter.unnecessarySimpa false
namespace Go.Proofs.YtcnhkoijphfibaaDoor
open Go.ChangeShapes Go.WideShapes Go.ChangeAt Go.RowKit Go.PlainAid
open Go.ChangeMaps (open_string shut_string)

theorem few_k (ao : Option Addr) (n cap : Nat) (r : Bool) (w : World) (h : decide (n ≤ 12) = r) :
    Calls Tryd.prog 24 #[.slice ao n cap] w fun e w' => e = .returned (.bool r) ∧ w = w' := by subst h; exact few_s ao n cap w
set_option maxRecDepth 100000 in
set_option maxHeartbeats 16000000 in
theorem lattice_s (a : Option Addr) (an ac : Nat) (al : List Cn) (b : Option Addr) (bn bc : Nat) (bl : List Cn) (c : Option Addr) (cn cc : Nat) (cl : List Cn) (w : World) (ha : CnsAt w a an ac al) (hb : CnsAt w b bn bc bl) (hc : CnsAt w c cn cc cl) (ho : WOk w) :
    Calls Tryd.prog 10 #[.slice a an ac, .slice b bn bc, .slice c cn cc] w fun e w' => e = .returned (.bool true) ∧ Below w.heap.size w w' := by
  have HW := Lib.hid (Below.refl w.heap.size w)
  have HO := Lib.hid ho
  have HA := Lib.hid ha
  have HB := Lib.hid hb
  have HC := Lib.hid hc
  clear ha hb hc ho
  by_cases fa : an ≤ 12
  · by_cases fb : bn ≤ 12
    · by_cases fc : cn ≤ 12
      · have LA := Lib.hid fa
        have LB := Lib.hid fb
        by_cases ka : chkC al = 0
        · have CA := Lib.hid ka
          clear ka
          by_cases kb : chkC bl = 0
          · have CB := Lib.hid kb
            clear kb
            by_cases kc : chkC cl = 0
            · have CC := Lib.hid kc
              clear kc
              have E1 := Lib.hid (wit_refl (chk_vec.1 CA.out))
              have E2 := Lib.hid (wit_left al bl)
              have E3 := Lib.hid (wit_right al bl)
              have E4 := Lib.hid (fun h k => wit_least (a := al) (b := bl) (c := cl) h k)
              have E5 := Lib.hid (fun h k => wit_trans (a := al) (b := bl) (c := cl) h k)
              have E6 := Lib.hid (fun h k => wit_anti (chk_vec.1 CA.out) (chk_vec.1 CB.out) h k)
              obtain ⟨j, hj⟩ : ∃ j, joinC al bl = j := ⟨_, rfl⟩
              have HJ := Lib.hid hj
              rw [hj] at E2 E3 E4
              clear hj
              obtain ⟨r0, hr0⟩ : ∃ r, witC al cl = r := ⟨_, rfl⟩
              obtain ⟨r1, hr1⟩ : ∃ r, witC bl cl = r := ⟨_, rfl⟩
              obtain ⟨r2, hr2⟩ : ∃ r, witC al bl = r := ⟨_, rfl⟩
              obtain ⟨r3, hr3⟩ : ∃ r, witC bl al = r := ⟨_, rfl⟩
              cases r0
              · cases r1
                · cases r2
                  · cases r3
                    · have R0 := Lib.hid hr0
                      clear hr0
                      have R1 := Lib.hid hr1
                      clear hr1
                      have R2 := Lib.hid hr2
                      clear hr2
                      have R3 := Lib.hid hr3
                      clear hr3
                      go_enter Tryd.func10, Tryd.ntmps10
                      go_wp2_with fail
                      refine (few_k a an ac true _ (decide_eq_true (by omega))).mono ?_
                      rintro e w' ⟨rfl, rfl⟩
                      go_wp2_with fail
                      refine (few_k b bn bc true _ (decide_eq_true (by omega))).mono ?_
                      rintro e w' ⟨rfl, rfl⟩
                      go_wp2_with fail
                      refine (few_k c cn cc true _ (decide_eq_true (by omega))).mono ?_
                      rintro e w' ⟨rfl, rfl⟩
                      go_wp2_with fail
                      refine (check_k a an ac al 0 _ HA.out CA.out).mono ?_
                      rintro e w1 ⟨rfl, hb⟩
                      have HW := Lib.hid (HW.out.trans (hb.mono HW.out.size))
                      have HO := Lib.hid (HO.out.below hb)
                      have HA := Lib.hid (HA.out.below hb)
                      have HB := Lib.hid (HB.out.below hb)
                      have HC := Lib.hid (HC.out.below hb)
                      clear hb
                      go_wp2_with fail
                      refine (check_k b bn bc bl 0 _ HB.out CB.out).mono ?_
                      rintro e w2 ⟨rfl, hb⟩
                      have HW := Lib.hid (HW.out.trans (hb.mono HW.out.size))
                      have HO := Lib.hid (HO.out.below hb)
                      have HA := Lib.hid (HA.out.below hb)
                      have HB := Lib.hid (HB.out.below hb)
                      have HC := Lib.hid (HC.out.below hb)
                      clear hb
                      go_wp2_with fail
                      refine (check_k c cn cc cl 0 _ HC.out CC.out).mono ?_
                      rintro e w3 ⟨rfl, hb⟩
                      have HW := Lib.hid (HW.out.trans (hb.mono HW.out.size))
                      have HO := Lib.hid (HO.out.below hb)
                      have HA := Lib.hid (HA.out.below hb)
                      have HB := Lib.hid (HB.out.below hb)
                      have HC := Lib.hid (HC.out.below hb)
                      clear hb
                      go_wp2_with fail
                      refine (join_k a b an bn ac bc al bl j _ HA.out HB.out (by have := LA.out; omega) (by have := LB.out; omega) HJ.out).mono ?_
                      rintro e w4 ⟨jo, jn, jc, rfl, hv, hb⟩
                      have HW := Lib.hid (HW.out.trans (hb.mono HW.out.size))
                      have HO := Lib.hid (HO.out.below hb)
                      have HA := Lib.hid (HA.out.below hb)
                      have HB := Lib.hid (HB.out.below hb)
                      have HC := Lib.hid (HC.out.below hb)
                      clear hb
                      have HV := Lib.hid hv
                      clear hv
                      go_wp2_with fail
                      refine (within_k a a an an ac ac al al true _ HA.out HA.out (E1.out)).mono ?_
                      rintro e w5 ⟨rfl, hb⟩
                      have HW := Lib.hid (HW.out.trans (hb.mono HW.out.size))
                      have HO := Lib.hid (HO.out.below hb)
                      have HA := Lib.hid (HA.out.below hb)
                      have HB := Lib.hid (HB.out.below hb)
                      have HC := Lib.hid (HC.out.below hb)
                      have HV := Lib.hid (HV.out.below hb)
                      clear hb
                      go_wp2_with fail
                      refine (within_k a jo an jn ac jc al j true _ HA.out HV.out (E2.out)).mono ?_
                      rintro e w6 ⟨rfl, hb⟩
                      have HW := Lib.hid (HW.out.trans (hb.mono HW.out.size))
                      have HO := Lib.hid (HO.out.below hb)
                      have HA := Lib.hid (HA.out.below hb)
                      have HB := Lib.hid (HB.out.below hb)
                      have HC := Lib.hid (HC.out.below hb)
                      have HV := Lib.hid (HV.out.below hb)
                      clear hb
                      go_wp2_with fail
                      refine (within_k b jo bn jn bc jc bl j true _ HB.out HV.out (E3.out)).mono ?_
                      rintro e w7 ⟨rfl, hb⟩
                      have HW := Lib.hid (HW.out.trans (hb.mono HW.out.size))
                      have HO := Lib.hid (HO.out.below hb)
                      have HA := Lib.hid (HA.out.below hb)
                      have HB := Lib.hid (HB.out.below hb)
                      have HC := Lib.hid (HC.out.below hb)
                      have HV := Lib.hid (HV.out.below hb)
                      clear hb
                      go_wp2_with fail
                      refine (within_k a c an cn ac cc al cl false _ HA.out HC.out (R0.out)).mono ?_
                      rintro e w8 ⟨rfl, hb⟩
                      have HW := Lib.hid (HW.out.trans (hb.mono HW.out.size))
                      have HO := Lib.hid (HO.out.below hb)
                      have HA := Lib.hid (HA.out.below hb)
                      have HB := Lib.hid (HB.out.below hb)
                      have HC := Lib.hid (HC.out.below hb)
                      have HV := Lib.hid (HV.out.below hb)
                      clear hb
                      go_wp2_with fail
                      refine (within_k a b an bn ac bc al bl false _ HA.out HB.out (R2.out)).mono ?_
                      rintro e w9 ⟨rfl, hb⟩
                      have HW := Lib.hid (HW.out.trans (hb.mono HW.out.size))
                      have HO := Lib.hid (HO.out.below hb)
                      have HA := Lib.hid (HA.out.below hb)
                      have HB := Lib.hid (HB.out.below hb)
                      have HC := Lib.hid (HC.out.below hb)
                      have HV := Lib.hid (HV.out.below hb)
                      clear hb
                      go_wp2_with fail
                      refine (within_k a b an bn ac bc al bl false _ HA.out HB.out (R2.out)).mono ?_
                      rintro e w10 ⟨rfl, hb⟩
                      have HW := Lib.hid (HW.out.trans (hb.mono HW.out.size))
                      have HO := Lib.hid (HO.out.below hb)
                      have HA := Lib.hid (HA.out.below hb)
                      have HB := Lib.hid (HB.out.below hb)
                      have HC := Lib.hid (HC.out.below hb)
                      have HV := Lib.hid (HV.out.below hb)
                      clear hb
                      go_wp2_with fail
                      refine (live_s _ HO.out).mono ?_
                      rintro e w11 ⟨rfl, hb⟩
                      have HW := Lib.hid (HW.out.trans (hb.mono HW.out.size))
                      have HO := Lib.hid (HO.out.below hb)
                      have HA := Lib.hid (HA.out.below hb)
                      have HB := Lib.hid (HB.out.below hb)
                      have HC := Lib.hid (HC.out.below hb)
                      have HV := Lib.hid (HV.out.below hb)
                      clear hb
                      go_wp2_with fail
                      go_ret
                      exact ⟨rfl, HW.out⟩
                    · have R0 := Lib.hid hr0
                      clear hr0
                      have R1 := Lib.hid hr1
                      clear hr1
                      have R2 := Lib.hid hr2
                      clear hr2
                      have R3 := Lib.hid hr3
                      clear hr3
                      go_enter Tryd.func10, Tryd.ntmps10
                      go_wp2_with fail
                      refine (few_k a an ac true _ (decide_eq_true (by omega))).mono ?_
                      rintro e w' ⟨rfl, rfl⟩
                      go_wp2_with fail
                      refine (few_k b bn bc true _ (decide_eq_true (by omega))).mono ?_
                      rintro e w' ⟨rfl, rfl⟩
                      go_wp2_with fail
                      refine (few_k c cn cc true _ (decide_eq_true (by omega))).mono ?_
                      rintro e w' ⟨rfl, rfl⟩
                      go_wp2_with fail
                      refine (check_k a an ac al 0 _ HA.out CA.out).mono ?_
                      rintro e w1 ⟨rfl, hb⟩
                      have HW := Lib.hid (HW.out.trans (hb.mono HW.out.size))
                      have HO := Lib.hid (HO.out.below hb)
                      have HA := Lib.hid (HA.out.below hb)
                      have HB := Lib.hid (HB.out.below hb)
                      have HC := Lib.hid (HC.out.below hb)
                      clear hb
                      go_wp2_with fail
                      refine (check_k b bn bc bl 0 _ HB.out CB.out).mono ?_
                      rintro e w2 ⟨rfl, hb⟩
                      have HW := Lib.hid (HW.out.trans (hb.mono HW.out.size))
                      have HO := Lib.hid (HO.out.below hb)
                      have HA := Lib.hid (HA.out.below hb)
                      have HB := Lib.hid (HB.out.below hb)
                      have HC := Lib.hid (HC.out.below hb)
                      clear hb
                      go_wp2_with fail
                      refine (check_k c cn cc cl 0 _ HC.out CC.out).mono ?_
                      rintro e w3 ⟨rfl, hb⟩
                      have HW := Lib.hid (HW.out.trans (hb.mono HW.out.size))
                      have HO := Lib.hid (HO.out.below hb)
                      have HA := Lib.hid (HA.out.below hb)
                      have HB := Lib.hid (HB.out.below hb)
                      have HC := Lib.hid (HC.out.below hb)
                      clear hb
                      go_wp2_with fail
                      refine (join_k a b an bn ac bc al bl j _ HA.out HB.out (by have := LA.out; omega) (by have := LB.out; omega) HJ.out).mono ?_
                      rintro e w4 ⟨jo, jn, jc, rfl, hv, hb⟩
                      have HW := Lib.hid (HW.out.trans (hb.mono HW.out.size))
                      have HO := Lib.hid (HO.out.below hb)
                      have HA := Lib.hid (HA.out.below hb)
                      have HB := Lib.hid (HB.out.below hb)
                      have HC := Lib.hid (HC.out.below hb)
                      clear hb
                      have HV := Lib.hid hv
                      clear hv
                      go_wp2_with fail
                      refine (within_k a a an an ac ac al al true _ HA.out HA.out (E1.out)).mono ?_
                      rintro e w5 ⟨rfl, hb⟩
                      have HW := Lib.hid (HW.out.trans (hb.mono HW.out.size))
                      have HO := Lib.hid (HO.out.below hb)
                      have HA := Lib.hid (HA.out.below hb)
                      have HB := Lib.hid (HB.out.below hb)
                      have HC := Lib.hid (HC.out.below hb)
                      have HV := Lib.hid (HV.out.below hb)
                      clear hb
                      go_wp2_with fail
                      refine (within_k a jo an jn ac jc al j true _ HA.out HV.out (E2.out)).mono ?_
                      rintro e w6 ⟨rfl, hb⟩
                      have HW := Lib.hid (HW.out.trans (hb.mono HW.out.size))
                      have HO := Lib.hid (HO.out.below hb)
                      have HA := Lib.hid (HA.out.below hb)
                      have HB := Lib.hid (HB.out.below hb)
                      have HC := Lib.hid (HC.out.below hb)
                      have HV := Lib.hid (HV.out.below hb)
                      clear hb
                      go_wp2_with fail
                      refine (within_k b jo bn jn bc jc bl j true _ HB.out HV.out (E3.out)).mono ?_
                      rintro e w7 ⟨rfl, hb⟩
                      have HW := Lib.hid (HW.out.trans (hb.mono HW.out.size))
                      have HO := Lib.hid (HO.out.below hb)
                      have HA := Lib.hid (HA.out.below hb)
                      have HB := Lib.hid (HB.out.below hb)
                      have HC := Lib.hid (HC.out.below hb)
                      have HV := Lib.hid (HV.out.below hb)
                      clear hb
                      go_wp2_with fail
                      refine (within_k a c an cn ac cc al cl false _ HA.out HC.out (R0.out)).mono ?_
                      rintro e w8 ⟨rfl, hb⟩
                      have HW := Lib.hid (HW.out.trans (hb.mono HW.out.size))
                      have HO := Lib.hid (HO.out.below hb)
                      have HA := Lib.hid (HA.out.below hb)
                      have HB := Lib.hid (HB.out.below hb)
                      have HC := Lib.hid (HC.out.below hb)
                      have HV := Lib.hid (HV.out.below hb)
                      clear hb
                      go_wp2_with fail
                      refine (within_k a b an bn ac bc al bl false _ HA.out HB.out (R2.out)).mono ?_
                      rintro e w9 ⟨rfl, hb⟩
                      have HW := Lib.hid (HW.out.trans (hb.mono HW.out.size))
                      have HO := Lib.hid (HO.out.below hb)
                      have HA := Lib.hid (HA.out.below hb)
                      have HB := Lib.hid (HB.out.below hb)
                      have HC := Lib.hid (HC.out.below hb)
                      have HV := Lib.hid (HV.out.below hb)
                      clear hb
                      go_wp2_with fail
                      refine (within_k a b an bn ac bc al bl false _ HA.out HB.out (R2.out)).mono ?_
                      rintro e w10 ⟨rfl, hb⟩
                      have HW := Lib.hid (HW.out.trans (hb.mono HW.out.size))
                      have HO := Lib.hid (HO.out.below hb)
                      have HA := Lib.hid (HA.out.below hb)
                      have HB := Lib.hid (HB.out.below hb)
                      have HC := Lib.hid (HC.out.below hb)
                      have HV := Lib.hid (HV.out.below hb)
                      clear hb
                      go_wp2_with fail
                      refine (live_s _ HO.out).mono ?_
                      rintro e w11 ⟨rfl, hb⟩
                      have HW := Lib.hid (HW.out.trans (hb.mono HW.out.size))
                      have HO := Lib.hid (HO.out.below hb)
                      have HA := Lib.hid (HA.out.below hb)
                      have HB := Lib.hid (HB.out.below hb)
                      have HC := Lib.hid (HC.out.below hb)
                      have HV := Lib.hid (HV.out.below hb)
                      clear hb
                      go_wp2_with fail
                      go_ret
                      exact ⟨rfl, HW.out⟩
                  · cases r3
                    · have R0 := Lib.hid hr0
                      clear hr0
                      have R1 := Lib.hid hr1
                      clear hr1
                      have R2 := Lib.hid hr2
                      clear hr2
                      have R3 := Lib.hid hr3
                      clear hr3
                      go_enter Tryd.func10, Tryd.ntmps10
                      go_wp2_with fail
                      refine (few_k a an ac true _ (decide_eq_true (by omega))).mono ?_
                      rintro e w' ⟨rfl, rfl⟩
                      go_wp2_with fail
                      refine (few_k b bn bc true _ (decide_eq_true (by omega))).mono ?_
                      rintro e w' ⟨rfl, rfl⟩
                      go_wp2_with fail
                      refine (few_k c cn cc true _ (decide_eq_true (by omega))).mono ?_
                      rintro e w' ⟨rfl, rfl⟩
                      go_wp2_with fail
                      refine (check_k a an ac al 0 _ HA.out CA.out).mono ?_
                      rintro e w1 ⟨rfl, hb⟩
                      have HW := Lib.hid (HW.out.trans (hb.mono HW.out.size))
                      have HO := Lib.hid (HO.out.below hb)
                      have HA := Lib.hid (HA.out.below hb)
                      have HB := Lib.hid (HB.out.below hb)
                      have HC := Lib.hid (HC.out.below hb)
                      clear hb
                      go_wp2_with fail
                      refine (check_k b bn bc bl 0 _ HB.out CB.out).mono ?_
                      rintro e w2 ⟨rfl, hb⟩
                      have HW := Lib.hid (HW.out.trans (hb.mono HW.out.size))
                      have HO := Lib.hid (HO.out.below hb)
                      have HA := Lib.hid (HA.out.below hb)
                      have HB := Lib.hid (HB.out.below hb)
                      have HC := Lib.hid (HC.out.below hb)
                      clear hb
                      go_wp2_with fail
                      refine (check_k c cn cc cl 0 _ HC.out CC.out).mono ?_
                      rintro e w3 ⟨rfl, hb⟩
                      have HW := Lib.hid (HW.out.trans (hb.mono HW.out.size))
                      have HO := Lib.hid (HO.out.below hb)
                      have HA := Lib.hid (HA.out.below hb)
                      have HB := Lib.hid (HB.out.below hb)
                      have HC := Lib.hid (HC.out.below hb)
                      clear hb
                      go_wp2_with fail
                      refine (join_k a b an bn ac bc al bl j _ HA.out HB.out (by have := LA.out; omega) (by have := LB.out; omega) HJ.out).mono ?_
                      rintro e w4 ⟨jo, jn, jc, rfl, hv, hb⟩
                      have HW := Lib.hid (HW.out.trans (hb.mono HW.out.size))
                      have HO := Lib.hid (HO.out.below hb)
                      have HA := Lib.hid (HA.out.below hb)
                      have HB := Lib.hid (HB.out.below hb)
                      have HC := Lib.hid (HC.out.below hb)
                      clear hb
                      have HV := Lib.hid hv
                      clear hv
                      go_wp2_with fail
                      refine (within_k a a an an ac ac al al true _ HA.out HA.out (E1.out)).mono ?_
                      rintro e w5 ⟨rfl, hb⟩
                      have HW := Lib.hid (HW.out.trans (hb.mono HW.out.size))
                      have HO := Lib.hid (HO.out.below hb)
                      have HA := Lib.hid (HA.out.below hb)
                      have HB := Lib.hid (HB.out.below hb)
                      have HC := Lib.hid (HC.out.below hb)
                      have HV := Lib.hid (HV.out.below hb)
                      clear hb
                      go_wp2_with fail
                      refine (within_k a jo an jn ac jc al j true _ HA.out HV.out (E2.out)).mono ?_
                      rintro e w6 ⟨rfl, hb⟩
                      have HW := Lib.hid (HW.out.trans (hb.mono HW.out.size))
                      have HO := Lib.hid (HO.out.below hb)
                      have HA := Lib.hid (HA.out.below hb)
                      have HB := Lib.hid (HB.out.below hb)
                      have HC := Lib.hid (HC.out.below hb)
                      have HV := Lib.hid (HV.out.below hb)
                      clear hb
                      go_wp2_with fail
                      refine (within_k b jo bn jn bc jc bl j true _ HB.out HV.out (E3.out)).mono ?_
                      rintro e w7 ⟨rfl, hb⟩
                      have HW := Lib.hid (HW.out.trans (hb.mono HW.out.size))
                      have HO := Lib.hid (HO.out.below hb)
                      have HA := Lib.hid (HA.out.below hb)
                      have HB := Lib.hid (HB.out.below hb)
                      have HC := Lib.hid (HC.out.below hb)
                      have HV := Lib.hid (HV.out.below hb)
                      clear hb
                      go_wp2_with fail
                      refine (within_k a c an cn ac cc al cl false _ HA.out HC.out (R0.out)).mono ?_
                      rintro e w8 ⟨rfl, hb⟩
                      have HW := Lib.hid (HW.out.trans (hb.mono HW.out.size))
                      have HO := Lib.hid (HO.out.below hb)
                      have HA := Lib.hid (HA.out.below hb)
                      have HB := Lib.hid (HB.out.below hb)
                      have HC := Lib.hid (HC.out.below hb)
                      have HV := Lib.hid (HV.out.below hb)
                      clear hb
                      go_wp2_with fail
                      refine (within_k a b an bn ac bc al bl true _ HA.out HB.out (R2.out)).mono ?_
                      rintro e w9 ⟨rfl, hb⟩
                      have HW := Lib.hid (HW.out.trans (hb.mono HW.out.size))
                      have HO := Lib.hid (HO.out.below hb)
                      have HA := Lib.hid (HA.out.below hb)
                      have HB := Lib.hid (HB.out.below hb)
                      have HC := Lib.hid (HC.out.below hb)
                      have HV := Lib.hid (HV.out.below hb)
                      clear hb
                      go_wp2_with fail
                      refine (within_k b c bn cn bc cc bl cl false _ HB.out HC.out (R1.out)).mono ?_
                      rintro e w10 ⟨rfl, hb⟩
                      have HW := Lib.hid (HW.out.trans (hb.mono HW.out.size))
                      have HO := Lib.hid (HO.out.below hb)
                      have HA := Lib.hid (HA.out.below hb)
                      have HB := Lib.hid (HB.out.below hb)
                      have HC := Lib.hid (HC.out.below hb)
                      have HV := Lib.hid (HV.out.below hb)
                      clear hb
                      go_wp2_with fail
                      refine (within_k a b an bn ac bc al bl true _ HA.out HB.out (R2.out)).mono ?_
                      rintro e w11 ⟨rfl, hb⟩
                      have HW := Lib.hid (HW.out.trans (hb.mono HW.out.size))
                      have HO := Lib.hid (HO.out.below hb)
                      have HA := Lib.hid (HA.out.below hb)
                      have HB := Lib.hid (HB.out.below hb)
                      have HC := Lib.hid (HC.out.below hb)
                      have HV := Lib.hid (HV.out.below hb)
                      clear hb
                      go_wp2_with fail
                      refine (within_k b a bn an bc ac bl al false _ HB.out HA.out (R3.out)).mono ?_
                      rintro e w12 ⟨rfl, hb⟩
                      have HW := Lib.hid (HW.out.trans (hb.mono HW.out.size))
                      have HO := Lib.hid (HO.out.below hb)
                      have HA := Lib.hid (HA.out.below hb)
                      have HB := Lib.hid (HB.out.below hb)
                      have HC := Lib.hid (HC.out.below hb)
                      have HV := Lib.hid (HV.out.below hb)
                      clear hb
                      go_wp2_with fail
                      refine (live_s _ HO.out).mono ?_
                      rintro e w13 ⟨rfl, hb⟩
                      have HW := Lib.hid (HW.out.trans (hb.mono HW.out.size))
                      have HO := Lib.hid (HO.out.below hb)
                      have HA := Lib.hid (HA.out.below hb)
                      have HB := Lib.hid (HB.out.below hb)
                      have HC := Lib.hid (HC.out.below hb)
                      have HV := Lib.hid (HV.out.below hb)
                      clear hb
                      go_wp2_with fail
                      go_ret
                      exact ⟨rfl, HW.out⟩
                    · have R0 := Lib.hid hr0
                      clear hr0
                      have R1 := Lib.hid hr1
                      clear hr1
                      have R2 := Lib.hid hr2
                      clear hr2
                      have R3 := Lib.hid hr3
                      clear hr3
                      go_enter Tryd.func10, Tryd.ntmps10
                      go_wp2_with fail
                      refine (few_k a an ac true _ (decide_eq_true (by omega))).mono ?_
                      rintro e w' ⟨rfl, rfl⟩
                      go_wp2_with fail
                      refine (few_k b bn bc true _ (decide_eq_true (by omega))).mono ?_
                      rintro e w' ⟨rfl, rfl⟩
                      go_wp2_with fail
                      refine (few_k c cn cc true _ (decide_eq_true (by omega))).mono ?_
                      rintro e w' ⟨rfl, rfl⟩
                      go_wp2_with fail
                      refine (check_k a an ac al 0 _ HA.out CA.out).mono ?_
                      rintro e w1 ⟨rfl, hb⟩
                      have HW := Lib.hid (HW.out.trans (hb.mono HW.out.size))
                      have HO := Lib.hid (HO.out.below hb)
                      have HA := Lib.hid (HA.out.below hb)
                      have HB := Lib.hid (HB.out.below hb)
                      have HC := Lib.hid (HC.out.below hb)
                      clear hb
                      go_wp2_with fail
                      refine (check_k b bn bc bl 0 _ HB.out CB.out).mono ?_
                      rintro e w2 ⟨rfl, hb⟩
                      have HW := Lib.hid (HW.out.trans (hb.mono HW.out.size))
                      have HO := Lib.hid (HO.out.below hb)
                      have HA := Lib.hid (HA.out.below hb)
                      have HB := Lib.hid (HB.out.below hb)
                      have HC := Lib.hid (HC.out.below hb)
                      clear hb
                      go_wp2_with fail
                      refine (check_k c cn cc cl 0 _ HC.out CC.out).mono ?_
                      rintro e w3 ⟨rfl, hb⟩
                      have HW := Lib.hid (HW.out.trans (hb.mono HW.out.size))
                      have HO := Lib.hid (HO.out.below hb)
                      have HA := Lib.hid (HA.out.below hb)
                      have HB := Lib.hid (HB.out.below hb)
                      have HC := Lib.hid (HC.out.below hb)
                      clear hb
                      go_wp2_with fail
                      refine (join_k a b an bn ac bc al bl j _ HA.out HB.out (by have := LA.out; omega) (by have := LB.out; omega) HJ.out).mono ?_
                      rintro e w4 ⟨jo, jn, jc, rfl, hv, hb⟩
                      have HW := Lib.hid (HW.out.trans (hb.mono HW.out.size))
                      have HO := Lib.hid (HO.out.below hb)
                      have HA := Lib.hid (HA.out.below hb)
                      have HB := Lib.hid (HB.out.below hb)
                      have HC := Lib.hid (HC.out.below hb)
                      clear hb
                      have HV := Lib.hid hv
                      clear hv
                      go_wp2_with fail
                      refine (within_k a a an an ac ac al al true _ HA.out HA.out (E1.out)).mono ?_
                      rintro e w5 ⟨rfl, hb⟩
                      have HW := Lib.hid (HW.out.trans (hb.mono HW.out.size))
                      have HO := Lib.hid (HO.out.below hb)
                      have HA := Lib.hid (HA.out.below hb)
                      have HB := Lib.hid (HB.out.below hb)
                      have HC := Lib.hid (HC.out.below hb)
                      have HV := Lib.hid (HV.out.below hb)
                      clear hb
                      go_wp2_with fail
                      refine (within_k a jo an jn ac jc al j true _ HA.out HV.out (E2.out)).mono ?_
                      rintro e w6 ⟨rfl, hb⟩
                      have HW := Lib.hid (HW.out.trans (hb.mono HW.out.size))
                      have HO := Lib.hid (HO.out.below hb)
                      have HA := Lib.hid (HA.out.below hb)
                      have HB := Lib.hid (HB.out.below hb)
                      have HC := Lib.hid (HC.out.below hb)
                      have HV := Lib.hid (HV.out.below hb)
                      clear hb
                      go_wp2_with fail
                      refine (within_k b jo bn jn bc jc bl j true _ HB.out HV.out (E3.out)).mono ?_
                      rintro e w7 ⟨rfl, hb⟩
                      have HW := Lib.hid (HW.out.trans (hb.mono HW.out.size))
                      have HO := Lib.hid (HO.out.below hb)
                      have HA := Lib.hid (HA.out.below hb)
                      have HB := Lib.hid (HB.out.below hb)
                      have HC := Lib.hid (HC.out.below hb)
                      have HV := Lib.hid (HV.out.below hb)
                      clear hb
                      go_wp2_with fail
                      refine (within_k a c an cn ac cc al cl false _ HA.out HC.out (R0.out)).mono ?_
                      rintro e w8 ⟨rfl, hb⟩
                      have HW := Lib.hid (HW.out.trans (hb.mono HW.out.size))
                      have HO := Lib.hid (HO.out.below hb)
                      have HA := Lib.hid (HA.out.below hb)
                      have HB := Lib.hid (HB.out.below hb)
                      have HC := Lib.hid (HC.out.below hb)
                      have HV := Lib.hid (HV.out.below hb)
                      clear hb
                      go_wp2_with fail
                      refine (within_k a b an bn ac bc al bl true _ HA.out HB.out (R2.out)).mono ?_
                      rintro e w9 ⟨rfl, hb⟩
                      have HW := Lib.hid (HW.out.trans (hb.mono HW.out.size))
                      have HO := Lib.hid (HO.out.below hb)
                      have HA := Lib.hid (HA.out.below hb)
                      have HB := Lib.hid (HB.out.below hb)
                      have HC := Lib.hid (HC.out.below hb)
                      have HV := Lib.hid (HV.out.below hb)
                      clear hb
                      go_wp2_with fail
                      refine (within_k b c bn cn bc cc bl cl false _ HB.out HC.out (R1.out)).mono ?_
                      rintro e w10 ⟨rfl, hb⟩
                      have HW := Lib.hid (HW.out.trans (hb.mono HW.out.size))
                      have HO := Lib.hid (HO.out.below hb)
                      have HA := Lib.hid (HA.out.below hb)
                      have HB := Lib.hid (HB.out.below hb)
                      have HC := Lib.hid (HC.out.below hb)
                      have HV := Lib.hid (HV.out.below hb)
                      clear hb
                      go_wp2_with fail
                      refine (within_k a b an bn ac bc al bl true _ HA.out HB.out (R2.out)).mono ?_
                      rintro e w11 ⟨rfl, hb⟩
                      have HW := Lib.hid (HW.out.trans (hb.mono HW.out.size))
                      have HO := Lib.hid (HO.out.below hb)
                      have HA := Lib.hid (HA.out.below hb)
                      have HB := Lib.hid (HB.out.below hb)
                      have HC := Lib.hid (HC.out.below hb)
                      have HV := Lib.hid (HV.out.below hb)
                      clear hb
                      go_wp2_with fail
                      refine (within_k b a bn an bc ac bl al true _ HB.out HA.out (R3.out)).mono ?_
                      rintro e w12 ⟨rfl, hb⟩
                      have HW := Lib.hid (HW.out.trans (hb.mono HW.out.size))
                      have HO := Lib.hid (HO.out.below hb)
                      have HA := Lib.hid (HA.out.below hb)
                      have HB := Lib.hid (HB.out.below hb)
                      have HC := Lib.hid (HC.out.below hb)
                      have HV := Lib.hid (HV.out.below hb)
                      clear hb
                      go_wp2_with fail
                      refine (same_k a b an bn ac bc al bl true _ HA.out HB.out (decide_eq_true (E6.out R2.out R3.out))).mono ?_
                      rintro e w13 ⟨rfl, hb⟩
                      have HW := Lib.hid (HW.out.trans (hb.mono HW.out.size))
                      have HO := Lib.hid (HO.out.below hb)
                      have HA := Lib.hid (HA.out.below hb)
                      have HB := Lib.hid (HB.out.below hb)
                      have HC := Lib.hid (HC.out.below hb)
                      have HV := Lib.hid (HV.out.below hb)
                      clear hb
                      go_wp2_with fail
                      refine (live_s _ HO.out).mono ?_
                      rintro e w14 ⟨rfl, hb⟩
                      have HW := Lib.hid (HW.out.trans (hb.mono HW.out.size))
                      have HO := Lib.hid (HO.out.below hb)
                      have HA := Lib.hid (HA.out.below hb)
                      have HB := Lib.hid (HB.out.below hb)
                      have HC := Lib.hid (HC.out.below hb)
                      have HV := Lib.hid (HV.out.below hb)
                      clear hb
                      go_wp2_with fail
                      go_ret
                      exact ⟨rfl, HW.out⟩
                · cases r2
                  · cases r3
                    · have R0 := Lib.hid hr0
                      clear hr0
                      have R1 := Lib.hid hr1
                      clear hr1
                      have R2 := Lib.hid hr2
                      clear hr2
                      have R3 := Lib.hid hr3
                      clear hr3
                      go_enter Tryd.func10, Tryd.ntmps10
                      go_wp2_with fail
                      refine (few_k a an ac true _ (decide_eq_true (by omega))).mono ?_
                      rintro e w' ⟨rfl, rfl⟩
                      go_wp2_with fail
                      refine (few_k b bn bc true _ (decide_eq_true (by omega))).mono ?_
                      rintro e w' ⟨rfl, rfl⟩
                      go_wp2_with fail
                      refine (few_k c cn cc true _ (decide_eq_true (by omega))).mono ?_
                      rintro e w' ⟨rfl, rfl⟩
                      go_wp2_with fail
                      refine (check_k a an ac al 0 _ HA.out CA.out).mono ?_
                      rintro e w1 ⟨rfl, hb⟩
                      have HW := Lib.hid (HW.out.trans (hb.mono HW.out.size))
                      have HO := Lib.hid (HO.out.below hb)
                      have HA := Lib.hid (HA.out.below hb)
                      have HB := Lib.hid (HB.out.below hb)
                      have HC := Lib.hid (HC.out.below hb)
                      clear hb
                      go_wp2_with fail
                      refine (check_k b bn bc bl 0 _ HB.out CB.out).mono ?_
                      rintro e w2 ⟨rfl, hb⟩
                      have HW := Lib.hid (HW.out.trans (hb.mono HW.out.size))
                      have HO := Lib.hid (HO.out.below hb)
                      have HA := Lib.hid (HA.out.below hb)
                      have HB := Lib.hid (HB.out.below hb)
                      have HC := Lib.hid (HC.out.below hb)
                      clear hb
                      go_wp2_with fail
                      refine (check_k c cn cc cl 0 _ HC.out CC.out).mono ?_
                      rintro e w3 ⟨rfl, hb⟩
                      have HW := Lib.hid (HW.out.trans (hb.mono HW.out.size))
                      have HO := Lib.hid (HO.out.below hb)
                      have HA := Lib.hid (HA.out.below hb)
                      have HB := Lib.hid (HB.out.below hb)
                      have HC := Lib.hid (HC.out.below hb)
                      clear hb
                      go_wp2_with fail
                      refine (join_k a b an bn ac bc al bl j _ HA.out HB.out (by have := LA.out; omega) (by have := LB.out; omega) HJ.out).mono ?_
                      rintro e w4 ⟨jo, jn, jc, rfl, hv, hb⟩
                      have HW := Lib.hid (HW.out.trans (hb.mono HW.out.size))
                      have HO := Lib.hid (HO.out.below hb)
                      have HA := Lib.hid (HA.out.below hb)
                      have HB := Lib.hid (HB.out.below hb)
                      have HC := Lib.hid (HC.out.below hb)
                      clear hb
                      have HV := Lib.hid hv
                      clear hv
                      go_wp2_with fail
                      refine (within_k a a an an ac ac al al true _ HA.out HA.out (E1.out)).mono ?_
                      rintro e w5 ⟨rfl, hb⟩
                      have HW := Lib.hid (HW.out.trans (hb.mono HW.out.size))
                      have HO := Lib.hid (HO.out.below hb)
                      have HA := Lib.hid (HA.out.below hb)
                      have HB := Lib.hid (HB.out.below hb)
                      have HC := Lib.hid (HC.out.below hb)
                      have HV := Lib.hid (HV.out.below hb)
                      clear hb
                      go_wp2_with fail
                      refine (within_k a jo an jn ac jc al j true _ HA.out HV.out (E2.out)).mono ?_
                      rintro e w6 ⟨rfl, hb⟩
                      have HW := Lib.hid (HW.out.trans (hb.mono HW.out.size))
                      have HO := Lib.hid (HO.out.below hb)
                      have HA := Lib.hid (HA.out.below hb)
                      have HB := Lib.hid (HB.out.below hb)
                      have HC := Lib.hid (HC.out.below hb)
                      have HV := Lib.hid (HV.out.below hb)
                      clear hb
                      go_wp2_with fail
                      refine (within_k b jo bn jn bc jc bl j true _ HB.out HV.out (E3.out)).mono ?_
                      rintro e w7 ⟨rfl, hb⟩
                      have HW := Lib.hid (HW.out.trans (hb.mono HW.out.size))
                      have HO := Lib.hid (HO.out.below hb)
                      have HA := Lib.hid (HA.out.below hb)
                      have HB := Lib.hid (HB.out.below hb)
                      have HC := Lib.hid (HC.out.below hb)
                      have HV := Lib.hid (HV.out.below hb)
                      clear hb
                      go_wp2_with fail
                      refine (within_k a c an cn ac cc al cl false _ HA.out HC.out (R0.out)).mono ?_
                      rintro e w8 ⟨rfl, hb⟩
                      have HW := Lib.hid (HW.out.trans (hb.mono HW.out.size))
                      have HO := Lib.hid (HO.out.below hb)
                      have HA := Lib.hid (HA.out.below hb)
                      have HB := Lib.hid (HB.out.below hb)
                      have HC := Lib.hid (HC.out.below hb)
                      have HV := Lib.hid (HV.out.below hb)
                      clear hb
                      go_wp2_with fail
                      refine (within_k a b an bn ac bc al bl false _ HA.out HB.out (R2.out)).mono ?_
                      rintro e w9 ⟨rfl, hb⟩
                      have HW := Lib.hid (HW.out.trans (hb.mono HW.out.size))
                      have HO := Lib.hid (HO.out.below hb)
                      have HA := Lib.hid (HA.out.below hb)
                      have HB := Lib.hid (HB.out.below hb)
                      have HC := Lib.hid (HC.out.below hb)
                      have HV := Lib.hid (HV.out.below hb)
                      clear hb
                      go_wp2_with fail
                      refine (within_k a b an bn ac bc al bl false _ HA.out HB.out (R2.out)).mono ?_
                      rintro e w10 ⟨rfl, hb⟩
                      have HW := Lib.hid (HW.out.trans (hb.mono HW.out.size))
                      have HO := Lib.hid (HO.out.below hb)
                      have HA := Lib.hid (HA.out.below hb)
                      have HB := Lib.hid (HB.out.below hb)
                      have HC := Lib.hid (HC.out.below hb)
                      have HV := Lib.hid (HV.out.below hb)
                      clear hb
                      go_wp2_with fail
                      refine (live_s _ HO.out).mono ?_
                      rintro e w11 ⟨rfl, hb⟩
                      have HW := Lib.hid (HW.out.trans (hb.mono HW.out.size))
                      have HO := Lib.hid (HO.out.below hb)
                      have HA := Lib.hid (HA.out.below hb)
                      have HB := Lib.hid (HB.out.below hb)
                      have HC := Lib.hid (HC.out.below hb)
                      have HV := Lib.hid (HV.out.below hb)
                      clear hb
                      go_wp2_with fail
                      go_ret
                      exact ⟨rfl, HW.out⟩
                    · have R0 := Lib.hid hr0
                      clear hr0
                      have R1 := Lib.hid hr1
                      clear hr1
                      have R2 := Lib.hid hr2
                      clear hr2
                      have R3 := Lib.hid hr3
                      clear hr3
                      go_enter Tryd.func10, Tryd.ntmps10
                      go_wp2_with fail
                      refine (few_k a an ac true _ (decide_eq_true (by omega))).mono ?_
                      rintro e w' ⟨rfl, rfl⟩
                      go_wp2_with fail
                      refine (few_k b bn bc true _ (decide_eq_true (by omega))).mono ?_
                      rintro e w' ⟨rfl, rfl⟩
                      go_wp2_with fail
                      refine (few_k c cn cc true _ (decide_eq_true (by omega))).mono ?_
                      rintro e w' ⟨rfl, rfl⟩
                      go_wp2_with fail
                      refine (check_k a an ac al 0 _ HA.out CA.out).mono ?_
                      rintro e w1 ⟨rfl, hb⟩
                      have HW := Lib.hid (HW.out.trans (hb.mono HW.out.size))
                      have HO := Lib.hid (HO.out.below hb)
                      have HA := Lib.hid (HA.out.below hb)
                      have HB := Lib.hid (HB.out.below hb)
                      have HC := Lib.hid (HC.out.below hb)
                      clear hb
                      go_wp2_with fail
                      refine (check_k b bn bc bl 0 _ HB.out CB.out).mono ?_
                      rintro e w2 ⟨rfl, hb⟩
                      have HW := Lib.hid (HW.out.trans (hb.mono HW.out.size))
                      have HO := Lib.hid (HO.out.below hb)
                      have HA := Lib.hid (HA.out.below hb)
                      have HB := Lib.hid (HB.out.below hb)
                      have HC := Lib.hid (HC.out.below hb)
                      clear hb
                      go_wp2_with fail
                      refine (check_k c cn cc cl 0 _ HC.out CC.out).mono ?_
                      rintro e w3 ⟨rfl, hb⟩
                      have HW := Lib.hid (HW.out.trans (hb.mono HW.out.size))
                      have HO := Lib.hid (HO.out.below hb)
                      have HA := Lib.hid (HA.out.below hb)
                      have HB := Lib.hid (HB.out.below hb)
                      have HC := Lib.hid (HC.out.below hb)
                      clear hb
                      go_wp2_with fail
                      refine (join_k a b an bn ac bc al bl j _ HA.out HB.out (by have := LA.out; omega) (by have := LB.out; omega) HJ.out).mono ?_
                      rintro e w4 ⟨jo, jn, jc, rfl, hv, hb⟩
                      have HW := Lib.hid (HW.out.trans (hb.mono HW.out.size))
                      have HO := Lib.hid (HO.out.below hb)
                      have HA := Lib.hid (HA.out.below hb)
                      have HB := Lib.hid (HB.out.below hb)
                      have HC := Lib.hid (HC.out.below hb)
                      clear hb
                      have HV := Lib.hid hv
                      clear hv
                      go_wp2_with fail
                      refine (within_k a a an an ac ac al al true _ HA.out HA.out (E1.out)).mono ?_
                      rintro e w5 ⟨rfl, hb⟩
                      have HW := Lib.hid (HW.out.trans (hb.mono HW.out.size))
                      have HO := Lib.hid (HO.out.below hb)
                      have HA := Lib.hid (HA.out.below hb)
                      have HB := Lib.hid (HB.out.below hb)
                      have HC := Lib.hid (HC.out.below hb)
                      have HV := Lib.hid (HV.out.below hb)
                      clear hb
                      go_wp2_with fail
                      refine (within_k a jo an jn ac jc al j true _ HA.out HV.out (E2.out)).mono ?_
                      rintro e w6 ⟨rfl, hb⟩
                      have HW := Lib.hid (HW.out.trans (hb.mono HW.out.size))
                      have HO := Lib.hid (HO.out.below hb)
                      have HA := Lib.hid (HA.out.below hb)
                      have HB := Lib.hid (HB.out.below hb)
                      have HC := Lib.hid (HC.out.below hb)
                      have HV := Lib.hid (HV.out.below hb)
                      clear hb
                      go_wp2_with fail
                      refine (within_k b jo bn jn bc jc bl j true _ HB.out HV.out (E3.out)).mono ?_
                      rintro e w7 ⟨rfl, hb⟩
                      have HW := Lib.hid (HW.out.trans (hb.mono HW.out.size))
                      have HO := Lib.hid (HO.out.below hb)
                      have HA := Lib.hid (HA.out.below hb)
                      have HB := Lib.hid (HB.out.below hb)
                      have HC := Lib.hid (HC.out.below hb)
                      have HV := Lib.hid (HV.out.below hb)
                      clear hb
                      go_wp2_with fail
                      refine (within_k a c an cn ac cc al cl false _ HA.out HC.out (R0.out)).mono ?_
                      rintro e w8 ⟨rfl, hb⟩
                      have HW := Lib.hid (HW.out.trans (hb.mono HW.out.size))
                      have HO := Lib.hid (HO.out.below hb)
                      have HA := Lib.hid (HA.out.below hb)
                      have HB := Lib.hid (HB.out.below hb)
                      have HC := Lib.hid (HC.out.below hb)
                      have HV := Lib.hid (HV.out.below hb)
                      clear hb
                      go_wp2_with fail
                      refine (within_k a b an bn ac bc al bl false _ HA.out HB.out (R2.out)).mono ?_
                      rintro e w9 ⟨rfl, hb⟩
                      have HW := Lib.hid (HW.out.trans (hb.mono HW.out.size))
                      have HO := Lib.hid (HO.out.below hb)
                      have HA := Lib.hid (HA.out.below hb)
                      have HB := Lib.hid (HB.out.below hb)
                      have HC := Lib.hid (HC.out.below hb)
                      have HV := Lib.hid (HV.out.below hb)
                      clear hb
                      go_wp2_with fail
                      refine (within_k a b an bn ac bc al bl false _ HA.out HB.out (R2.out)).mono ?_
                      rintro e w10 ⟨rfl, hb⟩
                      have HW := Lib.hid (HW.out.trans (hb.mono HW.out.size))
                      have HO := Lib.hid (HO.out.below hb)
                      have HA := Lib.hid (HA.out.below hb)
                      have HB := Lib.hid (HB.out.below hb)
                      have HC := Lib.hid (HC.out.below hb)
                      have HV := Lib.hid (HV.out.below hb)
                      clear hb
                      go_wp2_with fail
                      refine (live_s _ HO.out).mono ?_
                      rintro e w11 ⟨rfl, hb⟩
                      have HW := Lib.hid (HW.out.trans (hb.mono HW.out.size))
                      have HO := Lib.hid (HO.out.below hb)
                      have HA := Lib.hid (HA.out.below hb)
                      have HB := Lib.hid (HB.out.below hb)
                      have HC := Lib.hid (HC.out.below hb)
                      have HV := Lib.hid (HV.out.below hb)
                      clear hb
                      go_wp2_with fail
                      go_ret
                      exact ⟨rfl, HW.out⟩
                  · exact absurd (E5.out hr2 hr1) (by rw [hr0]; decide)
              · cases r1
                · cases r2
                  · cases r3
                    · have R0 := Lib.hid hr0
                      clear hr0
                      have R1 := Lib.hid hr1
                      clear hr1
                      have R2 := Lib.hid hr2
                      clear hr2
                      have R3 := Lib.hid hr3
                      clear hr3
                      go_enter Tryd.func10, Tryd.ntmps10
                      go_wp2_with fail
                      refine (few_k a an ac true _ (decide_eq_true (by omega))).mono ?_
                      rintro e w' ⟨rfl, rfl⟩
                      go_wp2_with fail
                      refine (few_k b bn bc true _ (decide_eq_true (by omega))).mono ?_
                      rintro e w' ⟨rfl, rfl⟩
                      go_wp2_with fail
                      refine (few_k c cn cc true _ (decide_eq_true (by omega))).mono ?_
                      rintro e w' ⟨rfl, rfl⟩
                      go_wp2_with fail
                      refine (check_k a an ac al 0 _ HA.out CA.out).mono ?_
                      rintro e w1 ⟨rfl, hb⟩
                      have HW := Lib.hid (HW.out.trans (hb.mono HW.out.size))
                      have HO := Lib.hid (HO.out.below hb)
                      have HA := Lib.hid (HA.out.below hb)
                      have HB := Lib.hid (HB.out.below hb)
                      have HC := Lib.hid (HC.out.below hb)
                      clear hb
                      go_wp2_with fail
                      refine (check_k b bn bc bl 0 _ HB.out CB.out).mono ?_
                      rintro e w2 ⟨rfl, hb⟩
                      have HW := Lib.hid (HW.out.trans (hb.mono HW.out.size))
                      have HO := Lib.hid (HO.out.below hb)
                      have HA := Lib.hid (HA.out.below hb)
                      have HB := Lib.hid (HB.out.below hb)
                      have HC := Lib.hid (HC.out.below hb)
                      clear hb
                      go_wp2_with fail
                      refine (check_k c cn cc cl 0 _ HC.out CC.out).mono ?_
                      rintro e w3 ⟨rfl, hb⟩
                      have HW := Lib.hid (HW.out.trans (hb.mono HW.out.size))
                      have HO := Lib.hid (HO.out.below hb)
                      have HA := Lib.hid (HA.out.below hb)
                      have HB := Lib.hid (HB.out.below hb)
                      have HC := Lib.hid (HC.out.below hb)
                      clear hb
                      go_wp2_with fail
                      refine (join_k a b an bn ac bc al bl j _ HA.out HB.out (by have := LA.out; omega) (by have := LB.out; omega) HJ.out).mono ?_
                      rintro e w4 ⟨jo, jn, jc, rfl, hv, hb⟩
                      have HW := Lib.hid (HW.out.trans (hb.mono HW.out.size))
                      have HO := Lib.hid (HO.out.below hb)
                      have HA := Lib.hid (HA.out.below hb)
                      have HB := Lib.hid (HB.out.below hb)
                      have HC := Lib.hid (HC.out.below hb)
                      clear hb
                      have HV := Lib.hid hv
                      clear hv
                      go_wp2_with fail
                      refine (within_k a a an an ac ac al al true _ HA.out HA.out (E1.out)).mono ?_
                      rintro e w5 ⟨rfl, hb⟩
                      have HW := Lib.hid (HW.out.trans (hb.mono HW.out.size))
                      have HO := Lib.hid (HO.out.below hb)
                      have HA := Lib.hid (HA.out.below hb)
                      have HB := Lib.hid (HB.out.below hb)
                      have HC := Lib.hid (HC.out.below hb)
                      have HV := Lib.hid (HV.out.below hb)
                      clear hb
                      go_wp2_with fail
                      refine (within_k a jo an jn ac jc al j true _ HA.out HV.out (E2.out)).mono ?_
                      rintro e w6 ⟨rfl, hb⟩
                      have HW := Lib.hid (HW.out.trans (hb.mono HW.out.size))
                      have HO := Lib.hid (HO.out.below hb)
                      have HA := Lib.hid (HA.out.below hb)
                      have HB := Lib.hid (HB.out.below hb)
                      have HC := Lib.hid (HC.out.below hb)
                      have HV := Lib.hid (HV.out.below hb)
                      clear hb
                      go_wp2_with fail
                      refine (within_k b jo bn jn bc jc bl j true _ HB.out HV.out (E3.out)).mono ?_
                      rintro e w7 ⟨rfl, hb⟩
                      have HW := Lib.hid (HW.out.trans (hb.mono HW.out.size))
                      have HO := Lib.hid (HO.out.below hb)
                      have HA := Lib.hid (HA.out.below hb)
                      have HB := Lib.hid (HB.out.below hb)
                      have HC := Lib.hid (HC.out.below hb)
                      have HV := Lib.hid (HV.out.below hb)
                      clear hb
                      go_wp2_with fail
                      refine (within_k a c an cn ac cc al cl true _ HA.out HC.out (R0.out)).mono ?_
                      rintro e w8 ⟨rfl, hb⟩
                      have HW := Lib.hid (HW.out.trans (hb.mono HW.out.size))
                      have HO := Lib.hid (HO.out.below hb)
                      have HA := Lib.hid (HA.out.below hb)
                      have HB := Lib.hid (HB.out.below hb)
                      have HC := Lib.hid (HC.out.below hb)
                      have HV := Lib.hid (HV.out.below hb)
                      clear hb
                      go_wp2_with fail
                      refine (within_k b c bn cn bc cc bl cl false _ HB.out HC.out (R1.out)).mono ?_
                      rintro e w9 ⟨rfl, hb⟩
                      have HW := Lib.hid (HW.out.trans (hb.mono HW.out.size))
                      have HO := Lib.hid (HO.out.below hb)
                      have HA := Lib.hid (HA.out.below hb)
                      have HB := Lib.hid (HB.out.below hb)
                      have HC := Lib.hid (HC.out.below hb)
                      have HV := Lib.hid (HV.out.below hb)
                      clear hb
                      go_wp2_with fail
                      refine (within_k a b an bn ac bc al bl false _ HA.out HB.out (R2.out)).mono ?_
                      rintro e w10 ⟨rfl, hb⟩
                      have HW := Lib.hid (HW.out.trans (hb.mono HW.out.size))
                      have HO := Lib.hid (HO.out.below hb)
                      have HA := Lib.hid (HA.out.below hb)
                      have HB := Lib.hid (HB.out.below hb)
                      have HC := Lib.hid (HC.out.below hb)
                      have HV := Lib.hid (HV.out.below hb)
                      clear hb
                      go_wp2_with fail
                      refine (within_k a b an bn ac bc al bl false _ HA.out HB.out (R2.out)).mono ?_
                      rintro e w11 ⟨rfl, hb⟩
                      have HW := Lib.hid (HW.out.trans (hb.mono HW.out.size))
                      have HO := Lib.hid (HO.out.below hb)
                      have HA := Lib.hid (HA.out.below hb)
                      have HB := Lib.hid (HB.out.below hb)
                      have HC := Lib.hid (HC.out.below hb)
                      have HV := Lib.hid (HV.out.below hb)
                      clear hb
                      go_wp2_with fail
                      refine (live_s _ HO.out).mono ?_
                      rintro e w12 ⟨rfl, hb⟩
                      have HW := Lib.hid (HW.out.trans (hb.mono HW.out.size))
                      have HO := Lib.hid (HO.out.below hb)
                      have HA := Lib.hid (HA.out.below hb)
                      have HB := Lib.hid (HB.out.below hb)
                      have HC := Lib.hid (HC.out.below hb)
                      have HV := Lib.hid (HV.out.below hb)
                      clear hb
                      go_wp2_with fail
                      go_ret
                      exact ⟨rfl, HW.out⟩
                    · have R0 := Lib.hid hr0
                      clear hr0
                      have R1 := Lib.hid hr1
                      clear hr1
                      have R2 := Lib.hid hr2
                      clear hr2
                      have R3 := Lib.hid hr3
                      clear hr3
                      go_enter Tryd.func10, Tryd.ntmps10
                      go_wp2_with fail
                      refine (few_k a an ac true _ (decide_eq_true (by omega))).mono ?_
                      rintro e w' ⟨rfl, rfl⟩
                      go_wp2_with fail
                      refine (few_k b bn bc true _ (decide_eq_true (by omega))).mono ?_
                      rintro e w' ⟨rfl, rfl⟩
                      go_wp2_with fail
                      refine (few_k c cn cc true _ (decide_eq_true (by omega))).mono ?_
                      rintro e w' ⟨rfl, rfl⟩
                      go_wp2_with fail
                      refine (check_k a an ac al 0 _ HA.out CA.out).mono ?_
                      rintro e w1 ⟨rfl, hb⟩
                      have HW := Lib.hid (HW.out.trans (hb.mono HW.out.size))
                      have HO := Lib.hid (HO.out.below hb)
                      have HA := Lib.hid (HA.out.below hb)
                      have HB := Lib.hid (HB.out.below hb)
                      have HC := Lib.hid (HC.out.below hb)
                      clear hb
                      go_wp2_with fail
                      refine (check_k b bn bc bl 0 _ HB.out CB.out).mono ?_
                      rintro e w2 ⟨rfl, hb⟩
                      have HW := Lib.hid (HW.out.trans (hb.mono HW.out.size))
                      have HO := Lib.hid (HO.out.below hb)
                      have HA := Lib.hid (HA.out.below hb)
                      have HB := Lib.hid (HB.out.below hb)
                      have HC := Lib.hid (HC.out.below hb)
                      clear hb
                      go_wp2_with fail
                      refine (check_k c cn cc cl 0 _ HC.out CC.out).mono ?_
                      rintro e w3 ⟨rfl, hb⟩
                      have HW := Lib.hid (HW.out.trans (hb.mono HW.out.size))
                      have HO := Lib.hid (HO.out.below hb)
                      have HA := Lib.hid (HA.out.below hb)
                      have HB := Lib.hid (HB.out.below hb)
                      have HC := Lib.hid (HC.out.below hb)
                      clear hb
                      go_wp2_with fail
                      refine (join_k a b an bn ac bc al bl j _ HA.out HB.out (by have := LA.out; omega) (by have := LB.out; omega) HJ.out).mono ?_
                      rintro e w4 ⟨jo, jn, jc, rfl, hv, hb⟩
                      have HW := Lib.hid (HW.out.trans (hb.mono HW.out.size))
                      have HO := Lib.hid (HO.out.below hb)
                      have HA := Lib.hid (HA.out.below hb)
                      have HB := Lib.hid (HB.out.below hb)
                      have HC := Lib.hid (HC.out.below hb)
                      clear hb
                      have HV := Lib.hid hv
                      clear hv
                      go_wp2_with fail
                      refine (within_k a a an an ac ac al al true _ HA.out HA.out (E1.out)).mono ?_
                      rintro e w5 ⟨rfl, hb⟩
                      have HW := Lib.hid (HW.out.trans (hb.mono HW.out.size))
                      have HO := Lib.hid (HO.out.below hb)
                      have HA := Lib.hid (HA.out.below hb)
                      have HB := Lib.hid (HB.out.below hb)
                      have HC := Lib.hid (HC.out.below hb)
                      have HV := Lib.hid (HV.out.below hb)
                      clear hb
                      go_wp2_with fail
                      refine (within_k a jo an jn ac jc al j true _ HA.out HV.out (E2.out)).mono ?_
                      rintro e w6 ⟨rfl, hb⟩
                      have HW := Lib.hid (HW.out.trans (hb.mono HW.out.size))
                      have HO := Lib.hid (HO.out.below hb)
                      have HA := Lib.hid (HA.out.below hb)
                      have HB := Lib.hid (HB.out.below hb)
                      have HC := Lib.hid (HC.out.below hb)
                      have HV := Lib.hid (HV.out.below hb)
                      clear hb
                      go_wp2_with fail
                      refine (within_k b jo bn jn bc jc bl j true _ HB.out HV.out (E3.out)).mono ?_
                      rintro e w7 ⟨rfl, hb⟩
                      have HW := Lib.hid (HW.out.trans (hb.mono HW.out.size))
                      have HO := Lib.hid (HO.out.below hb)
                      have HA := Lib.hid (HA.out.below hb)
                      have HB := Lib.hid (HB.out.below hb)
                      have HC := Lib.hid (HC.out.below hb)
                      have HV := Lib.hid (HV.out.below hb)
                      clear hb
                      go_wp2_with fail
                      refine (within_k a c an cn ac cc al cl true _ HA.out HC.out (R0.out)).mono ?_
                      rintro e w8 ⟨rfl, hb⟩
                      have HW := Lib.hid (HW.out.trans (hb.mono HW.out.size))
                      have HO := Lib.hid (HO.out.below hb)
                      have HA := Lib.hid (HA.out.below hb)
                      have HB := Lib.hid (HB.out.below hb)
                      have HC := Lib.hid (HC.out.below hb)
                      have HV := Lib.hid (HV.out.below hb)
                      clear hb
                      go_wp2_with fail
                      refine (within_k b c bn cn bc cc bl cl false _ HB.out HC.out (R1.out)).mono ?_
                      rintro e w9 ⟨rfl, hb⟩
                      have HW := Lib.hid (HW.out.trans (hb.mono HW.out.size))
                      have HO := Lib.hid (HO.out.below hb)
                      have HA := Lib.hid (HA.out.below hb)
                      have HB := Lib.hid (HB.out.below hb)
                      have HC := Lib.hid (HC.out.below hb)
                      have HV := Lib.hid (HV.out.below hb)
                      clear hb
                      go_wp2_with fail
                      refine (within_k a b an bn ac bc al bl false _ HA.out HB.out (R2.out)).mono ?_
                      rintro e w10 ⟨rfl, hb⟩
                      have HW := Lib.hid (HW.out.trans (hb.mono HW.out.size))
                      have HO := Lib.hid (HO.out.below hb)
                      have HA := Lib.hid (HA.out.below hb)
                      have HB := Lib.hid (HB.out.below hb)
                      have HC := Lib.hid (HC.out.below hb)
                      have HV := Lib.hid (HV.out.below hb)
                      clear hb
                      go_wp2_with fail
                      refine (within_k a b an bn ac bc al bl false _ HA.out HB.out (R2.out)).mono ?_
                      rintro e w11 ⟨rfl, hb⟩
                      have HW := Lib.hid (HW.out.trans (hb.mono HW.out.size))
                      have HO := Lib.hid (HO.out.below hb)
                      have HA := Lib.hid (HA.out.below hb)
                      have HB := Lib.hid (HB.out.below hb)
                      have HC := Lib.hid (HC.out.below hb)
                      have HV := Lib.hid (HV.out.below hb)
                      clear hb
                      go_wp2_with fail
                      refine (live_s _ HO.out).mono ?_
                      rintro e w12 ⟨rfl, hb⟩
                      have HW := Lib.hid (HW.out.trans (hb.mono HW.out.size))
                      have HO := Lib.hid (HO.out.below hb)
                      have HA := Lib.hid (HA.out.below hb)
                      have HB := Lib.hid (HB.out.below hb)
                      have HC := Lib.hid (HC.out.below hb)
                      have HV := Lib.hid (HV.out.below hb)
                      clear hb
                      go_wp2_with fail
                      go_ret
                      exact ⟨rfl, HW.out⟩
                  · cases r3
                    · have R0 := Lib.hid hr0
                      clear hr0
                      have R1 := Lib.hid hr1
                      clear hr1
                      have R2 := Lib.hid hr2
                      clear hr2
                      have R3 := Lib.hid hr3
                      clear hr3
                      go_enter Tryd.func10, Tryd.ntmps10
                      go_wp2_with fail
                      refine (few_k a an ac true _ (decide_eq_true (by omega))).mono ?_
                      rintro e w' ⟨rfl, rfl⟩
                      go_wp2_with fail
                      refine (few_k b bn bc true _ (decide_eq_true (by omega))).mono ?_
                      rintro e w' ⟨rfl, rfl⟩
                      go_wp2_with fail
                      refine (few_k c cn cc true _ (decide_eq_true (by omega))).mono ?_
                      rintro e w' ⟨rfl, rfl⟩
                      go_wp2_with fail
                      refine (check_k a an ac al 0 _ HA.out CA.out).mono ?_
                      rintro e w1 ⟨rfl, hb⟩
                      have HW := Lib.hid (HW.out.trans (hb.mono HW.out.size))
                      have HO := Lib.hid (HO.out.below hb)
                      have HA := Lib.hid (HA.out.below hb)
                      have HB := Lib.hid (HB.out.below hb)
                      have HC := Lib.hid (HC.out.below hb)
                      clear hb
                      go_wp2_with fail
                      refine (check_k b bn bc bl 0 _ HB.out CB.out).mono ?_
                      rintro e w2 ⟨rfl, hb⟩
                      have HW := Lib.hid (HW.out.trans (hb.mono HW.out.size))
                      have HO := Lib.hid (HO.out.below hb)
                      have HA := Lib.hid (HA.out.below hb)
                      have HB := Lib.hid (HB.out.below hb)
                      have HC := Lib.hid (HC.out.below hb)
                      clear hb
                      go_wp2_with fail
                      refine (check_k c cn cc cl 0 _ HC.out CC.out).mono ?_
                      rintro e w3 ⟨rfl, hb⟩
                      have HW := Lib.hid (HW.out.trans (hb.mono HW.out.size))
                      have HO := Lib.hid (HO.out.below hb)
                      have HA := Lib.hid (HA.out.below hb)
                      have HB := Lib.hid (HB.out.below hb)
                      have HC := Lib.hid (HC.out.below hb)
                      clear hb
                      go_wp2_with fail
                      refine (join_k a b an bn ac bc al bl j _ HA.out HB.out (by have := LA.out; omega) (by have := LB.out; omega) HJ.out).mono ?_
                      rintro e w4 ⟨jo, jn, jc, rfl, hv, hb⟩
                      have HW := Lib.hid (HW.out.trans (hb.mono HW.out.size))
                      have HO := Lib.hid (HO.out.below hb)
                      have HA := Lib.hid (HA.out.below hb)
                      have HB := Lib.hid (HB.out.below hb)
                      have HC := Lib.hid (HC.out.below hb)
                      clear hb
                      have HV := Lib.hid hv
                      clear hv
                      go_wp2_with fail
                      refine (within_k a a an an ac ac al al true _ HA.out HA.out (E1.out)).mono ?_
                      rintro e w5 ⟨rfl, hb⟩
                      have HW := Lib.hid (HW.out.trans (hb.mono HW.out.size))
                      have HO := Lib.hid (HO.out.below hb)
                      have HA := Lib.hid (HA.out.below hb)
                      have HB := Lib.hid (HB.out.below hb)
                      have HC := Lib.hid (HC.out.below hb)
                      have HV := Lib.hid (HV.out.below hb)
                      clear hb
                      go_wp2_with fail
                      refine (within_k a jo an jn ac jc al j true _ HA.out HV.out (E2.out)).mono ?_
                      rintro e w6 ⟨rfl, hb⟩
                      have HW := Lib.hid (HW.out.trans (hb.mono HW.out.size))
                      have HO := Lib.hid (HO.out.below hb)
                      have HA := Lib.hid (HA.out.below hb)
                      have HB := Lib.hid (HB.out.below hb)
                      have HC := Lib.hid (HC.out.below hb)
                      have HV := Lib.hid (HV.out.below hb)
                      clear hb
                      go_wp2_with fail
                      refine (within_k b jo bn jn bc jc bl j true _ HB.out HV.out (E3.out)).mono ?_
                      rintro e w7 ⟨rfl, hb⟩
                      have HW := Lib.hid (HW.out.trans (hb.mono HW.out.size))
                      have HO := Lib.hid (HO.out.below hb)
                      have HA := Lib.hid (HA.out.below hb)
                      have HB := Lib.hid (HB.out.below hb)
                      have HC := Lib.hid (HC.out.below hb)
                      have HV := Lib.hid (HV.out.below hb)
                      clear hb
                      go_wp2_with fail
                      refine (within_k a c an cn ac cc al cl true _ HA.out HC.out (R0.out)).mono ?_
                      rintro e w8 ⟨rfl, hb⟩
                      have HW := Lib.hid (HW.out.trans (hb.mono HW.out.size))
                      have HO := Lib.hid (HO.out.below hb)
                      have HA := Lib.hid (HA.out.below hb)
                      have HB := Lib.hid (HB.out.below hb)
                      have HC := Lib.hid (HC.out.below hb)
                      have HV := Lib.hid (HV.out.below hb)
                      clear hb
                      go_wp2_with fail
                      refine (within_k b c bn cn bc cc bl cl false _ HB.out HC.out (R1.out)).mono ?_
                      rintro e w9 ⟨rfl, hb⟩
                      have HW := Lib.hid (HW.out.trans (hb.mono HW.out.size))
                      have HO := Lib.hid (HO.out.below hb)
                      have HA := Lib.hid (HA.out.below hb)
                      have HB := Lib.hid (HB.out.below hb)
                      have HC := Lib.hid (HC.out.below hb)
                      have HV := Lib.hid (HV.out.below hb)
                      clear hb
                      go_wp2_with fail
                      refine (within_k a b an bn ac bc al bl true _ HA.out HB.out (R2.out)).mono ?_
                      rintro e w10 ⟨rfl, hb⟩
                      have HW := Lib.hid (HW.out.trans (hb.mono HW.out.size))
                      have HO := Lib.hid (HO.out.below hb)
                      have HA := Lib.hid (HA.out.below hb)
                      have HB := Lib.hid (HB.out.below hb)
                      have HC := Lib.hid (HC.out.below hb)
                      have HV := Lib.hid (HV.out.below hb)
                      clear hb
                      go_wp2_with fail
                      refine (within_k b c bn cn bc cc bl cl false _ HB.out HC.out (R1.out)).mono ?_
                      rintro e w11 ⟨rfl, hb⟩
                      have HW := Lib.hid (HW.out.trans (hb.mono HW.out.size))
                      have HO := Lib.hid (HO.out.below hb)
                      have HA := Lib.hid (HA.out.below hb)
                      have HB := Lib.hid (HB.out.below hb)
                      have HC := Lib.hid (HC.out.below hb)
                      have HV := Lib.hid (HV.out.below hb)
                      clear hb
                      go_wp2_with fail
                      refine (within_k a b an bn ac bc al bl true _ HA.out HB.out (R2.out)).mono ?_
                      rintro e w12 ⟨rfl, hb⟩
                      have HW := Lib.hid (HW.out.trans (hb.mono HW.out.size))
                      have HO := Lib.hid (HO.out.below hb)
                      have HA := Lib.hid (HA.out.below hb)
                      have HB := Lib.hid (HB.out.below hb)
                      have HC := Lib.hid (HC.out.below hb)
                      have HV := Lib.hid (HV.out.below hb)
                      clear hb
                      go_wp2_with fail
                      refine (within_k b a bn an bc ac bl al false _ HB.out HA.out (R3.out)).mono ?_
                      rintro e w13 ⟨rfl, hb⟩
                      have HW := Lib.hid (HW.out.trans (hb.mono HW.out.size))
                      have HO := Lib.hid (HO.out.below hb)
                      have HA := Lib.hid (HA.out.below hb)
                      have HB := Lib.hid (HB.out.below hb)
                      have HC := Lib.hid (HC.out.below hb)
                      have HV := Lib.hid (HV.out.below hb)
                      clear hb
                      go_wp2_with fail
                      refine (live_s _ HO.out).mono ?_
                      rintro e w14 ⟨rfl, hb⟩
                      have HW := Lib.hid (HW.out.trans (hb.mono HW.out.size))
                      have HO := Lib.hid (HO.out.below hb)
                      have HA := Lib.hid (HA.out.below hb)
                      have HB := Lib.hid (HB.out.below hb)
                      have HC := Lib.hid (HC.out.below hb)
                      have HV := Lib.hid (HV.out.below hb)
                      clear hb
                      go_wp2_with fail
                      go_ret
                      exact ⟨rfl, HW.out⟩
                    · have R0 := Lib.hid hr0
                      clear hr0
                      have R1 := Lib.hid hr1
                      clear hr1
                      have R2 := Lib.hid hr2
                      clear hr2
                      have R3 := Lib.hid hr3
                      clear hr3
                      go_enter Tryd.func10, Tryd.ntmps10
                      go_wp2_with fail
                      refine (few_k a an ac true _ (decide_eq_true (by omega))).mono ?_
                      rintro e w' ⟨rfl, rfl⟩
                      go_wp2_with fail
                      refine (few_k b bn bc true _ (decide_eq_true (by omega))).mono ?_
                      rintro e w' ⟨rfl, rfl⟩
                      go_wp2_with fail
                      refine (few_k c cn cc true _ (decide_eq_true (by omega))).mono ?_
                      rintro e w' ⟨rfl, rfl⟩
                      go_wp2_with fail
                      refine (check_k a an ac al 0 _ HA.out CA.out).mono ?_
                      rintro e w1 ⟨rfl, hb⟩
                      have HW := Lib.hid (HW.out.trans (hb.mono HW.out.size))
                      have HO := Lib.hid (HO.out.below hb)
                      have HA := Lib.hid (HA.out.below hb)
                      have HB := Lib.hid (HB.out.below hb)
                      have HC := Lib.hid (HC.out.below hb)
                      clear hb
                      go_wp2_with fail
                      refine (check_k b bn bc bl 0 _ HB.out CB.out).mono ?_
                      rintro e w2 ⟨rfl, hb⟩
                      have HW := Lib.hid (HW.out.trans (hb.mono HW.out.size))
                      have HO := Lib.hid (HO.out.below hb)
                      have HA := Lib.hid (HA.out.below hb)
                      have HB := Lib.hid (HB.out.below hb)
                      have HC := Lib.hid (HC.out.below hb)
                      clear hb
                      go_wp2_with fail
                      refine (check_k c cn cc cl 0 _ HC.out CC.out).mono ?_
                      rintro e w3 ⟨rfl, hb⟩
                      have HW := Lib.hid (HW.out.trans (hb.mono HW.out.size))
                      have HO := Lib.hid (HO.out.below hb)
                      have HA := Lib.hid (HA.out.below hb)
                      have HB := Lib.hid (HB.out.below hb)
                      have HC := Lib.hid (HC.out.below hb)
                      clear hb
                      go_wp2_with fail
                      refine (join_k a b an bn ac bc al bl j _ HA.out HB.out (by have := LA.out; omega) (by have := LB.out; omega) HJ.out).mono ?_
                      rintro e w4 ⟨jo, jn, jc, rfl, hv, hb⟩
                      have HW := Lib.hid (HW.out.trans (hb.mono HW.out.size))
                      have HO := Lib.hid (HO.out.below hb)
                      have HA := Lib.hid (HA.out.below hb)
                      have HB := Lib.hid (HB.out.below hb)
                      have HC := Lib.hid (HC.out.below hb)
                      clear hb
                      have HV := Lib.hid hv
                      clear hv
                      go_wp2_with fail
                      refine (within_k a a an an ac ac al al true _ HA.out HA.out (E1.out)).mono ?_
                      rintro e w5 ⟨rfl, hb⟩
                      have HW := Lib.hid (HW.out.trans (hb.mono HW.out.size))
                      have HO := Lib.hid (HO.out.below hb)
                      have HA := Lib.hid (HA.out.below hb)
                      have HB := Lib.hid (HB.out.below hb)
                      have HC := Lib.hid (HC.out.below hb)
                      have HV := Lib.hid (HV.out.below hb)
                      clear hb
                      go_wp2_with fail
                      refine (within_k a jo an jn ac jc al j true _ HA.out HV.out (E2.out)).mono ?_
                      rintro e w6 ⟨rfl, hb⟩
                      have HW := Lib.hid (HW.out.trans (hb.mono HW.out.size))
                      have HO := Lib.hid (HO.out.below hb)
                      have HA := Lib.hid (HA.out.below hb)
                      have HB := Lib.hid (HB.out.below hb)
                      have HC := Lib.hid (HC.out.below hb)
                      have HV := Lib.hid (HV.out.below hb)
                      clear hb
                      go_wp2_with fail
                      refine (within_k b jo bn jn bc jc bl j true _ HB.out HV.out (E3.out)).mono ?_
                      rintro e w7 ⟨rfl, hb⟩
                      have HW := Lib.hid (HW.out.trans (hb.mono HW.out.size))
                      have HO := Lib.hid (HO.out.below hb)
                      have HA := Lib.hid (HA.out.below hb)
                      have HB := Lib.hid (HB.out.below hb)
                      have HC := Lib.hid (HC.out.below hb)
                      have HV := Lib.hid (HV.out.below hb)
                      clear hb
                      go_wp2_with fail
                      refine (within_k a c an cn ac cc al cl true _ HA.out HC.out (R0.out)).mono ?_
                      rintro e w8 ⟨rfl, hb⟩
                      have HW := Lib.hid (HW.out.trans (hb.mono HW.out.size))
                      have HO := Lib.hid (HO.out.below hb)
                      have HA := Lib.hid (HA.out.below hb)
                      have HB := Lib.hid (HB.out.below hb)
                      have HC := Lib.hid (HC.out.below hb)
                      have HV := Lib.hid (HV.out.below hb)
                      clear hb
                      go_wp2_with fail
                      refine (within_k b c bn cn bc cc bl cl false _ HB.out HC.out (R1.out)).mono ?_
                      rintro e w9 ⟨rfl, hb⟩
                      have HW := Lib.hid (HW.out.trans (hb.mono HW.out.size))
                      have HO := Lib.hid (HO.out.below hb)
                      have HA := Lib.hid (HA.out.below hb)
                      have HB := Lib.hid (HB.out.below hb)
                      have HC := Lib.hid (HC.out.below hb)
                      have HV := Lib.hid (HV.out.below hb)
                      clear hb
                      go_wp2_with fail
                      refine (within_k a b an bn ac bc al bl true _ HA.out HB.out (R2.out)).mono ?_
                      rintro e w10 ⟨rfl, hb⟩
                      have HW := Lib.hid (HW.out.trans (hb.mono HW.out.size))
                      have HO := Lib.hid (HO.out.below hb)
                      have HA := Lib.hid (HA.out.below hb)
                      have HB := Lib.hid (HB.out.below hb)
                      have HC := Lib.hid (HC.out.below hb)
                      have HV := Lib.hid (HV.out.below hb)
                      clear hb
                      go_wp2_with fail
                      refine (within_k b c bn cn bc cc bl cl false _ HB.out HC.out (R1.out)).mono ?_
                      rintro e w11 ⟨rfl, hb⟩
                      have HW := Lib.hid (HW.out.trans (hb.mono HW.out.size))
                      have HO := Lib.hid (HO.out.below hb)
                      have HA := Lib.hid (HA.out.below hb)
                      have HB := Lib.hid (HB.out.below hb)
                      have HC := Lib.hid (HC.out.below hb)
                      have HV := Lib.hid (HV.out.below hb)
                      clear hb
                      go_wp2_with fail
                      refine (within_k a b an bn ac bc al bl true _ HA.out HB.out (R2.out)).mono ?_
                      rintro e w12 ⟨rfl, hb⟩
                      have HW := Lib.hid (HW.out.trans (hb.mono HW.out.size))
                      have HO := Lib.hid (HO.out.below hb)
                      have HA := Lib.hid (HA.out.below hb)
                      have HB := Lib.hid (HB.out.below hb)
                      have HC := Lib.hid (HC.out.below hb)
                      have HV := Lib.hid (HV.out.below hb)
                      clear hb
                      go_wp2_with fail
                      refine (within_k b a bn an bc ac bl al true _ HB.out HA.out (R3.out)).mono ?_
                      rintro e w13 ⟨rfl, hb⟩
                      have HW := Lib.hid (HW.out.trans (hb.mono HW.out.size))
                      have HO := Lib.hid (HO.out.below hb)
                      have HA := Lib.hid (HA.out.below hb)
                      have HB := Lib.hid (HB.out.below hb)
                      have HC := Lib.hid (HC.out.below hb)
                      have HV := Lib.hid (HV.out.below hb)
                      clear hb
                      go_wp2_with fail
                      refine (same_k a b an bn ac bc al bl true _ HA.out HB.out (decide_eq_true (E6.out R2.out R3.out))).mono ?_
                      rintro e w14 ⟨rfl, hb⟩
                      have HW := Lib.hid (HW.out.trans (hb.mono HW.out.size))
                      have HO := Lib.hid (HO.out.below hb)
                      have HA := Lib.hid (HA.out.below hb)
                      have HB := Lib.hid (HB.out.below hb)
                      have HC := Lib.hid (HC.out.below hb)
                      have HV := Lib.hid (HV.out.below hb)
                      clear hb
                      go_wp2_with fail
                      refine (live_s _ HO.out).mono ?_
                      rintro e w15 ⟨rfl, hb⟩
                      have HW := Lib.hid (HW.out.trans (hb.mono HW.out.size))
                      have HO := Lib.hid (HO.out.below hb)
                      have HA := Lib.hid (HA.out.below hb)
                      have HB := Lib.hid (HB.out.below hb)
                      have HC := Lib.hid (HC.out.below hb)
                      have HV := Lib.hid (HV.out.below hb)
                      clear hb
                      go_wp2_with fail
                      go_ret
                      exact ⟨rfl, HW.out⟩
                · cases r2
                  · cases r3
                    · have R0 := Lib.hid hr0
                      clear hr0
                      have R1 := Lib.hid hr1
                      clear hr1
                      have R2 := Lib.hid hr2
                      clear hr2
                      have R3 := Lib.hid hr3
                      clear hr3
                      go_enter Tryd.func10, Tryd.ntmps10
                      go_wp2_with fail
                      refine (few_k a an ac true _ (decide_eq_true (by omega))).mono ?_
                      rintro e w' ⟨rfl, rfl⟩
                      go_wp2_with fail
                      refine (few_k b bn bc true _ (decide_eq_true (by omega))).mono ?_
                      rintro e w' ⟨rfl, rfl⟩
                      go_wp2_with fail
                      refine (few_k c cn cc true _ (decide_eq_true (by omega))).mono ?_
                      rintro e w' ⟨rfl, rfl⟩
                      go_wp2_with fail
                      refine (check_k a an ac al 0 _ HA.out CA.out).mono ?_
                      rintro e w1 ⟨rfl, hb⟩
                      have HW := Lib.hid (HW.out.trans (hb.mono HW.out.size))
                      have HO := Lib.hid (HO.out.below hb)
                      have HA := Lib.hid (HA.out.below hb)
                      have HB := Lib.hid (HB.out.below hb)
                      have HC := Lib.hid (HC.out.below hb)
                      clear hb
                      go_wp2_with fail
                      refine (check_k b bn bc bl 0 _ HB.out CB.out).mono ?_
                      rintro e w2 ⟨rfl, hb⟩
                      have HW := Lib.hid (HW.out.trans (hb.mono HW.out.size))
                      have HO := Lib.hid (HO.out.below hb)
                      have HA := Lib.hid (HA.out.below hb)
                      have HB := Lib.hid (HB.out.below hb)
                      have HC := Lib.hid (HC.out.below hb)
                      clear hb
                      go_wp2_with fail
                      refine (check_k c cn cc cl 0 _ HC.out CC.out).mono ?_
                      rintro e w3 ⟨rfl, hb⟩
                      have HW := Lib.hid (HW.out.trans (hb.mono HW.out.size))
                      have HO := Lib.hid (HO.out.below hb)
                      have HA := Lib.hid (HA.out.below hb)
                      have HB := Lib.hid (HB.out.below hb)
                      have HC := Lib.hid (HC.out.below hb)
                      clear hb
                      go_wp2_with fail
                      refine (join_k a b an bn ac bc al bl j _ HA.out HB.out (by have := LA.out; omega) (by have := LB.out; omega) HJ.out).mono ?_
                      rintro e w4 ⟨jo, jn, jc, rfl, hv, hb⟩
                      have HW := Lib.hid (HW.out.trans (hb.mono HW.out.size))
                      have HO := Lib.hid (HO.out.below hb)
                      have HA := Lib.hid (HA.out.below hb)
                      have HB := Lib.hid (HB.out.below hb)
                      have HC := Lib.hid (HC.out.below hb)
                      clear hb
                      have HV := Lib.hid hv
                      clear hv
                      go_wp2_with fail
                      refine (within_k a a an an ac ac al al true _ HA.out HA.out (E1.out)).mono ?_
                      rintro e w5 ⟨rfl, hb⟩
                      have HW := Lib.hid (HW.out.trans (hb.mono HW.out.size))
                      have HO := Lib.hid (HO.out.below hb)
                      have HA := Lib.hid (HA.out.below hb)
                      have HB := Lib.hid (HB.out.below hb)
                      have HC := Lib.hid (HC.out.below hb)
                      have HV := Lib.hid (HV.out.below hb)
                      clear hb
                      go_wp2_with fail
                      refine (within_k a jo an jn ac jc al j true _ HA.out HV.out (E2.out)).mono ?_
                      rintro e w6 ⟨rfl, hb⟩
                      have HW := Lib.hid (HW.out.trans (hb.mono HW.out.size))
                      have HO := Lib.hid (HO.out.below hb)
                      have HA := Lib.hid (HA.out.below hb)
                      have HB := Lib.hid (HB.out.below hb)
                      have HC := Lib.hid (HC.out.below hb)
                      have HV := Lib.hid (HV.out.below hb)
                      clear hb
                      go_wp2_with fail
                      refine (within_k b jo bn jn bc jc bl j true _ HB.out HV.out (E3.out)).mono ?_
                      rintro e w7 ⟨rfl, hb⟩
                      have HW := Lib.hid (HW.out.trans (hb.mono HW.out.size))
                      have HO := Lib.hid (HO.out.below hb)
                      have HA := Lib.hid (HA.out.below hb)
                      have HB := Lib.hid (HB.out.below hb)
                      have HC := Lib.hid (HC.out.below hb)
                      have HV := Lib.hid (HV.out.below hb)
                      clear hb
                      go_wp2_with fail
                      refine (within_k a c an cn ac cc al cl true _ HA.out HC.out (R0.out)).mono ?_
                      rintro e w8 ⟨rfl, hb⟩
                      have HW := Lib.hid (HW.out.trans (hb.mono HW.out.size))
                      have HO := Lib.hid (HO.out.below hb)
                      have HA := Lib.hid (HA.out.below hb)
                      have HB := Lib.hid (HB.out.below hb)
                      have HC := Lib.hid (HC.out.below hb)
                      have HV := Lib.hid (HV.out.below hb)
                      clear hb
                      go_wp2_with fail
                      refine (within_k b c bn cn bc cc bl cl true _ HB.out HC.out (R1.out)).mono ?_
                      rintro e w9 ⟨rfl, hb⟩
                      have HW := Lib.hid (HW.out.trans (hb.mono HW.out.size))
                      have HO := Lib.hid (HO.out.below hb)
                      have HA := Lib.hid (HA.out.below hb)
                      have HB := Lib.hid (HB.out.below hb)
                      have HC := Lib.hid (HC.out.below hb)
                      have HV := Lib.hid (HV.out.below hb)
                      clear hb
                      go_wp2_with fail
                      refine (within_k jo c jn cn jc cc j cl true _ HV.out HC.out (E4.out R0.out R1.out)).mono ?_
                      rintro e w10 ⟨rfl, hb⟩
                      have HW := Lib.hid (HW.out.trans (hb.mono HW.out.size))
                      have HO := Lib.hid (HO.out.below hb)
                      have HA := Lib.hid (HA.out.below hb)
                      have HB := Lib.hid (HB.out.below hb)
                      have HC := Lib.hid (HC.out.below hb)
                      have HV := Lib.hid (HV.out.below hb)
                      clear hb
                      go_wp2_with fail
                      refine (within_k a b an bn ac bc al bl false _ HA.out HB.out (R2.out)).mono ?_
                      rintro e w11 ⟨rfl, hb⟩
                      have HW := Lib.hid (HW.out.trans (hb.mono HW.out.size))
                      have HO := Lib.hid (HO.out.below hb)
                      have HA := Lib.hid (HA.out.below hb)
                      have HB := Lib.hid (HB.out.below hb)
                      have HC := Lib.hid (HC.out.below hb)
                      have HV := Lib.hid (HV.out.below hb)
                      clear hb
                      go_wp2_with fail
                      refine (within_k a b an bn ac bc al bl false _ HA.out HB.out (R2.out)).mono ?_
                      rintro e w12 ⟨rfl, hb⟩
                      have HW := Lib.hid (HW.out.trans (hb.mono HW.out.size))
                      have HO := Lib.hid (HO.out.below hb)
                      have HA := Lib.hid (HA.out.below hb)
                      have HB := Lib.hid (HB.out.below hb)
                      have HC := Lib.hid (HC.out.below hb)
                      have HV := Lib.hid (HV.out.below hb)
                      clear hb
                      go_wp2_with fail
                      refine (live_s _ HO.out).mono ?_
                      rintro e w13 ⟨rfl, hb⟩
                      have HW := Lib.hid (HW.out.trans (hb.mono HW.out.size))
                      have HO := Lib.hid (HO.out.below hb)
                      have HA := Lib.hid (HA.out.below hb)
                      have HB := Lib.hid (HB.out.below hb)
                      have HC := Lib.hid (HC.out.below hb)
                      have HV := Lib.hid (HV.out.below hb)
                      clear hb
                      go_wp2_with fail
                      go_ret
                      exact ⟨rfl, HW.out⟩
                    · have R0 := Lib.hid hr0
                      clear hr0
                      have R1 := Lib.hid hr1
                      clear hr1
                      have R2 := Lib.hid hr2
                      clear hr2
                      have R3 := Lib.hid hr3
                      clear hr3
                      go_enter Tryd.func10, Tryd.ntmps10
                      go_wp2_with fail
                      refine (few_k a an ac true _ (decide_eq_true (by omega))).mono ?_
                      rintro e w' ⟨rfl, rfl⟩
                      go_wp2_with fail
                      refine (few_k b bn bc true _ (decide_eq_true (by omega))).mono ?_
                      rintro e w' ⟨rfl, rfl⟩
                      go_wp2_with fail
                      refine (few_k c cn cc true _ (decide_eq_true (by omega))).mono ?_
                      rintro e w' ⟨rfl, rfl⟩
                      go_wp2_with fail
                      refine (check_k a an ac al 0 _ HA.out CA.out).mono ?_
                      rintro e w1 ⟨rfl, hb⟩
                      have HW := Lib.hid (HW.out.trans (hb.mono HW.out.size))
                      have HO := Lib.hid (HO.out.below hb)
                      have HA := Lib.hid (HA.out.below hb)
                      have HB := Lib.hid (HB.out.below hb)
                      have HC := Lib.hid (HC.out.below hb)
                      clear hb
                      go_wp2_with fail
                      refine (check_k b bn bc bl 0 _ HB.out CB.out).mono ?_
                      rintro e w2 ⟨rfl, hb⟩
                      have HW := Lib.hid (HW.out.trans (hb.mono HW.out.size))
                      have HO := Lib.hid (HO.out.below hb)
                      have HA := Lib.hid (HA.out.below hb)
                      have HB := Lib.hid (HB.out.below hb)
                      have HC := Lib.hid (HC.out.below hb)
                      clear hb
                      go_wp2_with fail
                      refine (check_k c cn cc cl 0 _ HC.out CC.out).mono ?_
                      rintro e w3 ⟨rfl, hb⟩
                      have HW := Lib.hid (HW.out.trans (hb.mono HW.out.size))
                      have HO := Lib.hid (HO.out.below hb)
                      have HA := Lib.hid (HA.out.below hb)
                      have HB := Lib.hid (HB.out.below hb)
                      have HC := Lib.hid (HC.out.below hb)
                      clear hb
                      go_wp2_with fail
                      refine (join_k a b an bn ac bc al bl j _ HA.out HB.out (by have := LA.out; omega) (by have := LB.out; omega) HJ.out).mono ?_
                      rintro e w4 ⟨jo, jn, jc, rfl, hv, hb⟩
                      have HW := Lib.hid (HW.out.trans (hb.mono HW.out.size))
                      have HO := Lib.hid (HO.out.below hb)
                      have HA := Lib.hid (HA.out.below hb)
                      have HB := Lib.hid (HB.out.below hb)
                      have HC := Lib.hid (HC.out.below hb)
                      clear hb
                      have HV := Lib.hid hv
                      clear hv
                      go_wp2_with fail
                      refine (within_k a a an an ac ac al al true _ HA.out HA.out (E1.out)).mono ?_
                      rintro e w5 ⟨rfl, hb⟩
                      have HW := Lib.hid (HW.out.trans (hb.mono HW.out.size))
                      have HO := Lib.hid (HO.out.below hb)
                      have HA := Lib.hid (HA.out.below hb)
                      have HB := Lib.hid (HB.out.below hb)
                      have HC := Lib.hid (HC.out.below hb)
                      have HV := Lib.hid (HV.out.below hb)
                      clear hb
                      go_wp2_with fail
                      refine (within_k a jo an jn ac jc al j true _ HA.out HV.out (E2.out)).mono ?_
                      rintro e w6 ⟨rfl, hb⟩
                      have HW := Lib.hid (HW.out.trans (hb.mono HW.out.size))
                      have HO := Lib.hid (HO.out.below hb)
                      have HA := Lib.hid (HA.out.below hb)
                      have HB := Lib.hid (HB.out.below hb)
                      have HC := Lib.hid (HC.out.below hb)
                      have HV := Lib.hid (HV.out.below hb)
                      clear hb
                      go_wp2_with fail
                      refine (within_k b jo bn jn bc jc bl j true _ HB.out HV.out (E3.out)).mono ?_
                      rintro e w7 ⟨rfl, hb⟩
                      have HW := Lib.hid (HW.out.trans (hb.mono HW.out.size))
                      have HO := Lib.hid (HO.out.below hb)
                      have HA := Lib.hid (HA.out.below hb)
                      have HB := Lib.hid (HB.out.below hb)
                      have HC := Lib.hid (HC.out.below hb)
                      have HV := Lib.hid (HV.out.below hb)
                      clear hb
                      go_wp2_with fail
                      refine (within_k a c an cn ac cc al cl true _ HA.out HC.out (R0.out)).mono ?_
                      rintro e w8 ⟨rfl, hb⟩
                      have HW := Lib.hid (HW.out.trans (hb.mono HW.out.size))
                      have HO := Lib.hid (HO.out.below hb)
                      have HA := Lib.hid (HA.out.below hb)
                      have HB := Lib.hid (HB.out.below hb)
                      have HC := Lib.hid (HC.out.below hb)
                      have HV := Lib.hid (HV.out.below hb)
                      clear hb
                      go_wp2_with fail
                      refine (within_k b c bn cn bc cc bl cl true _ HB.out HC.out (R1.out)).mono ?_
                      rintro e w9 ⟨rfl, hb⟩
                      have HW := Lib.hid (HW.out.trans (hb.mono HW.out.size))
                      have HO := Lib.hid (HO.out.below hb)
                      have HA := Lib.hid (HA.out.below hb)
                      have HB := Lib.hid (HB.out.below hb)
                      have HC := Lib.hid (HC.out.below hb)
                      have HV := Lib.hid (HV.out.below hb)
                      clear hb
                      go_wp2_with fail
                      refine (within_k jo c jn cn jc cc j cl true _ HV.out HC.out (E4.out R0.out R1.out)).mono ?_
                      rintro e w10 ⟨rfl, hb⟩
                      have HW := Lib.hid (HW.out.trans (hb.mono HW.out.size))
                      have HO := Lib.hid (HO.out.below hb)
                      have HA := Lib.hid (HA.out.below hb)
                      have HB := Lib.hid (HB.out.below hb)
                      have HC := Lib.hid (HC.out.below hb)
                      have HV := Lib.hid (HV.out.below hb)
                      clear hb
                      go_wp2_with fail
                      refine (within_k a b an bn ac bc al bl false _ HA.out HB.out (R2.out)).mono ?_
                      rintro e w11 ⟨rfl, hb⟩
                      have HW := Lib.hid (HW.out.trans (hb.mono HW.out.size))
                      have HO := Lib.hid (HO.out.below hb)
                      have HA := Lib.hid (HA.out.below hb)
                      have HB := Lib.hid (HB.out.below hb)
                      have HC := Lib.hid (HC.out.below hb)
                      have HV := Lib.hid (HV.out.below hb)
                      clear hb
                      go_wp2_with fail
                      refine (within_k a b an bn ac bc al bl false _ HA.out HB.out (R2.out)).mono ?_
                      rintro e w12 ⟨rfl, hb⟩
                      have HW := Lib.hid (HW.out.trans (hb.mono HW.out.size))
                      have HO := Lib.hid (HO.out.below hb)
                      have HA := Lib.hid (HA.out.below hb)
                      have HB := Lib.hid (HB.out.below hb)
                      have HC := Lib.hid (HC.out.below hb)
                      have HV := Lib.hid (HV.out.below hb)
                      clear hb
                      go_wp2_with fail
                      refine (live_s _ HO.out).mono ?_
                      rintro e w13 ⟨rfl, hb⟩
                      have HW := Lib.hid (HW.out.trans (hb.mono HW.out.size))
                      have HO := Lib.hid (HO.out.below hb)
                      have HA := Lib.hid (HA.out.below hb)
                      have HB := Lib.hid (HB.out.below hb)
                      have HC := Lib.hid (HC.out.below hb)
                      have HV := Lib.hid (HV.out.below hb)
                      clear hb
                      go_wp2_with fail
                      go_ret
                      exact ⟨rfl, HW.out⟩
                  · cases r3
                    · have R0 := Lib.hid hr0
                      clear hr0
                      have R1 := Lib.hid hr1
                      clear hr1
                      have R2 := Lib.hid hr2
                      clear hr2
                      have R3 := Lib.hid hr3
                      clear hr3
                      go_enter Tryd.func10, Tryd.ntmps10
                      go_wp2_with fail
                      refine (few_k a an ac true _ (decide_eq_true (by omega))).mono ?_
                      rintro e w' ⟨rfl, rfl⟩
                      go_wp2_with fail
                      refine (few_k b bn bc true _ (decide_eq_true (by omega))).mono ?_
                      rintro e w' ⟨rfl, rfl⟩
                      go_wp2_with fail
                      refine (few_k c cn cc true _ (decide_eq_true (by omega))).mono ?_
                      rintro e w' ⟨rfl, rfl⟩
                      go_wp2_with fail
                      refine (check_k a an ac al 0 _ HA.out CA.out).mono ?_
                      rintro e w1 ⟨rfl, hb⟩
                      have HW := Lib.hid (HW.out.trans (hb.mono HW.out.size))
                      have HO := Lib.hid (HO.out.below hb)
                      have HA := Lib.hid (HA.out.below hb)
                      have HB := Lib.hid (HB.out.below hb)
                      have HC := Lib.hid (HC.out.below hb)
                      clear hb
                      go_wp2_with fail
                      refine (check_k b bn bc bl 0 _ HB.out CB.out).mono ?_
                      rintro e w2 ⟨rfl, hb⟩
                      have HW := Lib.hid (HW.out.trans (hb.mono HW.out.size))
                      have HO := Lib.hid (HO.out.below hb)
                      have HA := Lib.hid (HA.out.below hb)
                      have HB := Lib.hid (HB.out.below hb)
                      have HC := Lib.hid (HC.out.below hb)
                      clear hb
                      go_wp2_with fail
                      refine (check_k c cn cc cl 0 _ HC.out CC.out).mono ?_
                      rintro e w3 ⟨rfl, hb⟩
                      have HW := Lib.hid (HW.out.trans (hb.mono HW.out.size))
                      have HO := Lib.hid (HO.out.below hb)
                      have HA := Lib.hid (HA.out.below hb)
                      have HB := Lib.hid (HB.out.below hb)
                      have HC := Lib.hid (HC.out.below hb)
                      clear hb
                      go_wp2_with fail
                      refine (join_k a b an bn ac bc al bl j _ HA.out HB.out (by have := LA.out; omega) (by have := LB.out; omega) HJ.out).mono ?_
                      rintro e w4 ⟨jo, jn, jc, rfl, hv, hb⟩
                      have HW := Lib.hid (HW.out.trans (hb.mono HW.out.size))
                      have HO := Lib.hid (HO.out.below hb)
                      have HA := Lib.hid (HA.out.below hb)
                      have HB := Lib.hid (HB.out.below hb)
                      have HC := Lib.hid (HC.out.below hb)
                      clear hb
                      have HV := Lib.hid hv
                      clear hv
                      go_wp2_with fail
                      refine (within_k a a an an ac ac al al true _ HA.out HA.out (E1.out)).mono ?_
                      rintro e w5 ⟨rfl, hb⟩
                      have HW := Lib.hid (HW.out.trans (hb.mono HW.out.size))
                      have HO := Lib.hid (HO.out.below hb)
                      have HA := Lib.hid (HA.out.below hb)
                      have HB := Lib.hid (HB.out.below hb)
                      have HC := Lib.hid (HC.out.below hb)
                      have HV := Lib.hid (HV.out.below hb)
                      clear hb
                      go_wp2_with fail
                      refine (within_k a jo an jn ac jc al j true _ HA.out HV.out (E2.out)).mono ?_
                      rintro e w6 ⟨rfl, hb⟩
                      have HW := Lib.hid (HW.out.trans (hb.mono HW.out.size))
                      have HO := Lib.hid (HO.out.below hb)
                      have HA := Lib.hid (HA.out.below hb)
                      have HB := Lib.hid (HB.out.below hb)
                      have HC := Lib.hid (HC.out.below hb)
                      have HV := Lib.hid (HV.out.below hb)
                      clear hb
                      go_wp2_with fail
                      refine (within_k b jo bn jn bc jc bl j true _ HB.out HV.out (E3.out)).mono ?_
                      rintro e w7 ⟨rfl, hb⟩
                      have HW := Lib.hid (HW.out.trans (hb.mono HW.out.size))
                      have HO := Lib.hid (HO.out.below hb)
                      have HA := Lib.hid (HA.out.below hb)
                      have HB := Lib.hid (HB.out.below hb)
                      have HC := Lib.hid (HC.out.below hb)
                      have HV := Lib.hid (HV.out.below hb)
                      clear hb
                      go_wp2_with fail
                      refine (within_k a c an cn ac cc al cl true _ HA.out HC.out (R0.out)).mono ?_
                      rintro e w8 ⟨rfl, hb⟩
                      have HW := Lib.hid (HW.out.trans (hb.mono HW.out.size))
                      have HO := Lib.hid (HO.out.below hb)
                      have HA := Lib.hid (HA.out.below hb)
                      have HB := Lib.hid (HB.out.below hb)
                      have HC := Lib.hid (HC.out.below hb)
                      have HV := Lib.hid (HV.out.below hb)
                      clear hb
                      go_wp2_with fail
                      refine (within_k b c bn cn bc cc bl cl true _ HB.out HC.out (R1.out)).mono ?_
                      rintro e w9 ⟨rfl, hb⟩
                      have HW := Lib.hid (HW.out.trans (hb.mono HW.out.size))
                      have HO := Lib.hid (HO.out.below hb)
                      have HA := Lib.hid (HA.out.below hb)
                      have HB := Lib.hid (HB.out.below hb)
                      have HC := Lib.hid (HC.out.below hb)
                      have HV := Lib.hid (HV.out.below hb)
                      clear hb
                      go_wp2_with fail
                      refine (within_k jo c jn cn jc cc j cl true _ HV.out HC.out (E4.out R0.out R1.out)).mono ?_
                      rintro e w10 ⟨rfl, hb⟩
                      have HW := Lib.hid (HW.out.trans (hb.mono HW.out.size))
                      have HO := Lib.hid (HO.out.below hb)
                      have HA := Lib.hid (HA.out.below hb)
                      have HB := Lib.hid (HB.out.below hb)
                      have HC := Lib.hid (HC.out.below hb)
                      have HV := Lib.hid (HV.out.below hb)
                      clear hb
                      go_wp2_with fail
                      refine (within_k a b an bn ac bc al bl true _ HA.out HB.out (R2.out)).mono ?_
                      rintro e w11 ⟨rfl, hb⟩
                      have HW := Lib.hid (HW.out.trans (hb.mono HW.out.size))
                      have HO := Lib.hid (HO.out.below hb)
                      have HA := Lib.hid (HA.out.below hb)
                      have HB := Lib.hid (HB.out.below hb)
                      have HC := Lib.hid (HC.out.below hb)
                      have HV := Lib.hid (HV.out.below hb)
                      clear hb
                      go_wp2_with fail
                      refine (within_k b c bn cn bc cc bl cl true _ HB.out HC.out (R1.out)).mono ?_
                      rintro e w12 ⟨rfl, hb⟩
                      have HW := Lib.hid (HW.out.trans (hb.mono HW.out.size))
                      have HO := Lib.hid (HO.out.below hb)
                      have HA := Lib.hid (HA.out.below hb)
                      have HB := Lib.hid (HB.out.below hb)
                      have HC := Lib.hid (HC.out.below hb)
                      have HV := Lib.hid (HV.out.below hb)
                      clear hb
                      go_wp2_with fail
                      refine (within_k a c an cn ac cc al cl true _ HA.out HC.out (R0.out)).mono ?_
                      rintro e w13 ⟨rfl, hb⟩
                      have HW := Lib.hid (HW.out.trans (hb.mono HW.out.size))
                      have HO := Lib.hid (HO.out.below hb)
                      have HA := Lib.hid (HA.out.below hb)
                      have HB := Lib.hid (HB.out.below hb)
                      have HC := Lib.hid (HC.out.below hb)
                      have HV := Lib.hid (HV.out.below hb)
                      clear hb
                      go_wp2_with fail
                      refine (within_k a b an bn ac bc al bl true _ HA.out HB.out (R2.out)).mono ?_
                      rintro e w14 ⟨rfl, hb⟩
                      have HW := Lib.hid (HW.out.trans (hb.mono HW.out.size))
                      have HO := Lib.hid (HO.out.below hb)
                      have HA := Lib.hid (HA.out.below hb)
                      have HB := Lib.hid (HB.out.below hb)
                      have HC := Lib.hid (HC.out.below hb)
                      have HV := Lib.hid (HV.out.below hb)
                      clear hb
                      go_wp2_with fail
                      refine (within_k b a bn an bc ac bl al false _ HB.out HA.out (R3.out)).mono ?_
                      rintro e w15 ⟨rfl, hb⟩
                      have HW := Lib.hid (HW.out.trans (hb.mono HW.out.size))
                      have HO := Lib.hid (HO.out.below hb)
                      have HA := Lib.hid (HA.out.below hb)
                      have HB := Lib.hid (HB.out.below hb)
                      have HC := Lib.hid (HC.out.below hb)
                      have HV := Lib.hid (HV.out.below hb)
                      clear hb
                      go_wp2_with fail
                      refine (live_s _ HO.out).mono ?_
                      rintro e w16 ⟨rfl, hb⟩
                      have HW := Lib.hid (HW.out.trans (hb.mono HW.out.size))
                      have HO := Lib.hid (HO.out.below hb)
                      have HA := Lib.hid (HA.out.below hb)
                      have HB := Lib.hid (HB.out.below hb)
                      have HC := Lib.hid (HC.out.below hb)
                      have HV := Lib.hid (HV.out.below hb)
                      clear hb
                      go_wp2_with fail
                      go_ret
                      exact ⟨rfl, HW.out⟩
                    · have R0 := Lib.hid hr0
                      clear hr0
                      have R1 := Lib.hid hr1
                      clear hr1
                      have R2 := Lib.hid hr2
                      clear hr2
                      have R3 := Lib.hid hr3
                      clear hr3
                      go_enter Tryd.func10, Tryd.ntmps10
                      go_wp2_with fail
                      refine (few_k a an ac true _ (decide_eq_true (by omega))).mono ?_
                      rintro e w' ⟨rfl, rfl⟩
                      go_wp2_with fail
                      refine (few_k b bn bc true _ (decide_eq_true (by omega))).mono ?_
                      rintro e w' ⟨rfl, rfl⟩
                      go_wp2_with fail
                      refine (few_k c cn cc true _ (decide_eq_true (by omega))).mono ?_
                      rintro e w' ⟨rfl, rfl⟩
                      go_wp2_with fail
                      refine (check_k a an ac al 0 _ HA.out CA.out).mono ?_
                      rintro e w1 ⟨rfl, hb⟩
                      have HW := Lib.hid (HW.out.trans (hb.mono HW.out.size))
                      have HO := Lib.hid (HO.out.below hb)
                      have HA := Lib.hid (HA.out.below hb)
                      have HB := Lib.hid (HB.out.below hb)
                      have HC := Lib.hid (HC.out.below hb)
                      clear hb
                      go_wp2_with fail
                      refine (check_k b bn bc bl 0 _ HB.out CB.out).mono ?_
                      rintro e w2 ⟨rfl, hb⟩
                      have HW := Lib.hid (HW.out.trans (hb.mono HW.out.size))
                      have HO := Lib.hid (HO.out.below hb)
                      have HA := Lib.hid (HA.out.below hb)
                      have HB := Lib.hid (HB.out.below hb)
                      have HC := Lib.hid (HC.out.below hb)
                      clear hb
                      go_wp2_with fail
                      refine (check_k c cn cc cl 0 _ HC.out CC.out).mono ?_
                      rintro e w3 ⟨rfl, hb⟩
                      have HW := Lib.hid (HW.out.trans (hb.mono HW.out.size))
                      have HO := Lib.hid (HO.out.below hb)
                      have HA := Lib.hid (HA.out.below hb)
                      have HB := Lib.hid (HB.out.below hb)
                      have HC := Lib.hid (HC.out.below hb)
                      clear hb
                      go_wp2_with fail
                      refine (join_k a b an bn ac bc al bl j _ HA.out HB.out (by have := LA.out; omega) (by have := LB.out; omega) HJ.out).mono ?_
                      rintro e w4 ⟨jo, jn, jc, rfl, hv, hb⟩
                      have HW := Lib.hid (HW.out.trans (hb.mono HW.out.size))
                      have HO := Lib.hid (HO.out.below hb)
                      have HA := Lib.hid (HA.out.below hb)
                      have HB := Lib.hid (HB.out.below hb)
                      have HC := Lib.hid (HC.out.below hb)
                      clear hb
                      have HV := Lib.hid hv
                      clear hv
                      go_wp2_with fail
                      refine (within_k a a an an ac ac al al true _ HA.out HA.out (E1.out)).mono ?_
                      rintro e w5 ⟨rfl, hb⟩
                      have HW := Lib.hid (HW.out.trans (hb.mono HW.out.size))
                      have HO := Lib.hid (HO.out.below hb)
                      have HA := Lib.hid (HA.out.below hb)
                      have HB := Lib.hid (HB.out.below hb)
                      have HC := Lib.hid (HC.out.below hb)
                      have HV := Lib.hid (HV.out.below hb)
                      clear hb
                      go_wp2_with fail
                      refine (within_k a jo an jn ac jc al j true _ HA.out HV.out (E2.out)).mono ?_
                      rintro e w6 ⟨rfl, hb⟩
                      have HW := Lib.hid (HW.out.trans (hb.mono HW.out.size))
                      have HO := Lib.hid (HO.out.below hb)
                      have HA := Lib.hid (HA.out.below hb)
                      have HB := Lib.hid (HB.out.below hb)
                      have HC := Lib.hid (HC.out.below hb)
                      have HV := Lib.hid (HV.out.below hb)
                      clear hb
                      go_wp2_with fail
                      refine (within_k b jo bn jn bc jc bl j true _ HB.out HV.out (E3.out)).mono ?_
                      rintro e w7 ⟨rfl, hb⟩
                      have HW := Lib.hid (HW.out.trans (hb.mono HW.out.size))
                      have HO := Lib.hid (HO.out.below hb)
                      have HA := Lib.hid (HA.out.below hb)
                      have HB := Lib.hid (HB.out.below hb)
                      have HC := Lib.hid (HC.out.below hb)
                      have HV := Lib.hid (HV.out.below hb)
                      clear hb
                      go_wp2_with fail
                      refine (within_k a c an cn ac cc al cl true _ HA.out HC.out (R0.out)).mono ?_
                      rintro e w8 ⟨rfl, hb⟩
                      have HW := Lib.hid (HW.out.trans (hb.mono HW.out.size))
                      have HO := Lib.hid (HO.out.below hb)
                      have HA := Lib.hid (HA.out.below hb)
                      have HB := Lib.hid (HB.out.below hb)
                      have HC := Lib.hid (HC.out.below hb)
                      have HV := Lib.hid (HV.out.below hb)
                      clear hb
                      go_wp2_with fail
                      refine (within_k b c bn cn bc cc bl cl true _ HB.out HC.out (R1.out)).mono ?_
                      rintro e w9 ⟨rfl, hb⟩
                      have HW := Lib.hid (HW.out.trans (hb.mono HW.out.size))
                      have HO := Lib.hid (HO.out.below hb)
                      have HA := Lib.hid (HA.out.below hb)
                      have HB := Lib.hid (HB.out.below hb)
                      have HC := Lib.hid (HC.out.below hb)
                      have HV := Lib.hid (HV.out.below hb)
                      clear hb
                      go_wp2_with fail
                      refine (within_k jo c jn cn jc cc j cl true _ HV.out HC.out (E4.out R0.out R1.out)).mono ?_
                      rintro e w10 ⟨rfl, hb⟩
                      have HW := Lib.hid (HW.out.trans (hb.mono HW.out.size))
                      have HO := Lib.hid (HO.out.below hb)
                      have HA := Lib.hid (HA.out.below hb)
                      have HB := Lib.hid (HB.out.below hb)
                      have HC := Lib.hid (HC.out.below hb)
                      have HV := Lib.hid (HV.out.below hb)
                      clear hb
                      go_wp2_with fail
                      refine (within_k a b an bn ac bc al bl true _ HA.out HB.out (R2.out)).mono ?_
                      rintro e w11 ⟨rfl, hb⟩
                      have HW := Lib.hid (HW.out.trans (hb.mono HW.out.size))
                      have HO := Lib.hid (HO.out.below hb)
                      have HA := Lib.hid (HA.out.below hb)
                      have HB := Lib.hid (HB.out.below hb)
                      have HC := Lib.hid (HC.out.below hb)
                      have HV := Lib.hid (HV.out.below hb)
                      clear hb
                      go_wp2_with fail
                      refine (within_k b c bn cn bc cc bl cl true _ HB.out HC.out (R1.out)).mono ?_
                      rintro e w12 ⟨rfl, hb⟩
                      have HW := Lib.hid (HW.out.trans (hb.mono HW.out.size))
                      have HO := Lib.hid (HO.out.below hb)
                      have HA := Lib.hid (HA.out.below hb)
                      have HB := Lib.hid (HB.out.below hb)
                      have HC := Lib.hid (HC.out.below hb)
                      have HV := Lib.hid (HV.out.below hb)
                      clear hb
                      go_wp2_with fail
                      refine (within_k a c an cn ac cc al cl true _ HA.out HC.out (R0.out)).mono ?_
                      rintro e w13 ⟨rfl, hb⟩
                      have HW := Lib.hid (HW.out.trans (hb.mono HW.out.size))
                      have HO := Lib.hid (HO.out.below hb)
                      have HA := Lib.hid (HA.out.below hb)
                      have HB := Lib.hid (HB.out.below hb)
                      have HC := Lib.hid (HC.out.below hb)
                      have HV := Lib.hid (HV.out.below hb)
                      clear hb
                      go_wp2_with fail
                      refine (within_k a b an bn ac bc al bl true _ HA.out HB.out (R2.out)).mono ?_
                      rintro e w14 ⟨rfl, hb⟩
                      have HW := Lib.hid (HW.out.trans (hb.mono HW.out.size))
                      have HO := Lib.hid (HO.out.below hb)
                      have HA := Lib.hid (HA.out.below hb)
                      have HB := Lib.hid (HB.out.below hb)
                      have HC := Lib.hid (HC.out.below hb)
                      have HV := Lib.hid (HV.out.below hb)
                      clear hb
                      go_wp2_with fail
                      refine (within_k b a bn an bc ac bl al true _ HB.out HA.out (R3.out)).mono ?_
                      rintro e w15 ⟨rfl, hb⟩
                      have HW := Lib.hid (HW.out.trans (hb.mono HW.out.size))
                      have HO := Lib.hid (HO.out.below hb)
                      have HA := Lib.hid (HA.out.below hb)
                      have HB := Lib.hid (HB.out.below hb)
                      have HC := Lib.hid (HC.out.below hb)
                      have HV := Lib.hid (HV.out.below hb)
                      clear hb
                      go_wp2_with fail
                      refine (same_k a b an bn ac bc al bl true _ HA.out HB.out (decide_eq_true (E6.out R2.out R3.out))).mono ?_
                      rintro e w16 ⟨rfl, hb⟩
                      have HW := Lib.hid (HW.out.trans (hb.mono HW.out.size))
                      have HO := Lib.hid (HO.out.below hb)
                      have HA := Lib.hid (HA.out.below hb)
                      have HB := Lib.hid (HB.out.below hb)
                      have HC := Lib.hid (HC.out.below hb)
                      have HV := Lib.hid (HV.out.below hb)
                      clear hb
                      go_wp2_with fail
                      refine (live_s _ HO.out).mono ?_
                      rintro e w17 ⟨rfl, hb⟩
                      have HW := Lib.hid (HW.out.trans (hb.mono HW.out.size))
                      have HO := Lib.hid (HO.out.below hb)
                      have HA := Lib.hid (HA.out.below hb)
                      have HB := Lib.hid (HB.out.below hb)
                      have HC := Lib.hid (HC.out.below hb)
                      have HV := Lib.hid (HV.out.below hb)
                      clear hb
                      go_wp2_with fail
                      go_ret
                      exact ⟨rfl, HW.out⟩
            · obtain ⟨x, hx⟩ : ∃ x, chkC cl = x := ⟨_, rfl⟩
              have qx : (x != 0) = true := by rw [bne_iff_ne, ← hx]; exact kc
              have HX := Lib.hid hx
              clear hx kc
              go_enter Tryd.func10, Tryd.ntmps10
              go_wp2_with fail
              refine (few_k a an ac true _ (decide_eq_true (by omega))).mono ?_
              rintro e w' ⟨rfl, rfl⟩
              go_wp2_with fail
              refine (few_k b bn bc true _ (decide_eq_true (by omega))).mono ?_
              rintro e w' ⟨rfl, rfl⟩
              go_wp2_with fail
              refine (few_k c cn cc true _ (decide_eq_true (by omega))).mono ?_
              rintro e w' ⟨rfl, rfl⟩
              go_wp2_with fail
              refine (check_k a an ac al 0 _ HA.out CA.out).mono ?_
              rintro e w1 ⟨rfl, hb⟩
              have HW := Lib.hid (HW.out.trans (hb.mono HW.out.size))
              have HO := Lib.hid (HO.out.below hb)
              have HA := Lib.hid (HA.out.below hb)
              have HB := Lib.hid (HB.out.below hb)
              have HC := Lib.hid (HC.out.below hb)
              clear hb
              go_wp2_with fail
              refine (check_k b bn bc bl 0 _ HB.out CB.out).mono ?_
              rintro e w2 ⟨rfl, hb⟩
              have HW := Lib.hid (HW.out.trans (hb.mono HW.out.size))
              have HO := Lib.hid (HO.out.below hb)
              have HA := Lib.hid (HA.out.below hb)
              have HB := Lib.hid (HB.out.below hb)
              have HC := Lib.hid (HC.out.below hb)
              clear hb
              go_wp2_with fail
              refine (check_k c cn cc cl x _ HC.out HX.out).mono ?_
              rintro e w3 ⟨rfl, hb⟩
              have HW := Lib.hid (HW.out.trans (hb.mono HW.out.size))
              have HO := Lib.hid (HO.out.below hb)
              have HA := Lib.hid (HA.out.below hb)
              have HB := Lib.hid (HB.out.below hb)
              have HC := Lib.hid (HC.out.below hb)
              clear hb
              go_wp2_with fail
              refine (live_s _ HO.out).mono ?_
              rintro e w4 ⟨rfl, hb⟩
              have HW := Lib.hid (HW.out.trans (hb.mono HW.out.size))
              have HO := Lib.hid (HO.out.below hb)
              have HA := Lib.hid (HA.out.below hb)
              have HB := Lib.hid (HB.out.below hb)
              have HC := Lib.hid (HC.out.below hb)
              clear hb
              go_wp2_with fail
              go_ret
              exact ⟨rfl, HW.out⟩
          · obtain ⟨x, hx⟩ : ∃ x, chkC bl = x := ⟨_, rfl⟩
            have qx : (x != 0) = true := by rw [bne_iff_ne, ← hx]; exact kb
            have HX := Lib.hid hx
            clear hx kb
            go_enter Tryd.func10, Tryd.ntmps10
            go_wp2_with fail
            refine (few_k a an ac true _ (decide_eq_true (by omega))).mono ?_
            rintro e w' ⟨rfl, rfl⟩
            go_wp2_with fail
            refine (few_k b bn bc true _ (decide_eq_true (by omega))).mono ?_
            rintro e w' ⟨rfl, rfl⟩
            go_wp2_with fail
            refine (few_k c cn cc true _ (decide_eq_true (by omega))).mono ?_
            rintro e w' ⟨rfl, rfl⟩
            go_wp2_with fail
            refine (check_k a an ac al 0 _ HA.out CA.out).mono ?_
            rintro e w1 ⟨rfl, hb⟩
            have HW := Lib.hid (HW.out.trans (hb.mono HW.out.size))
            have HO := Lib.hid (HO.out.below hb)
            have HA := Lib.hid (HA.out.below hb)
            have HB := Lib.hid (HB.out.below hb)
            have HC := Lib.hid (HC.out.below hb)
            clear hb
            go_wp2_with fail
            refine (check_k b bn bc bl x _ HB.out HX.out).mono ?_
            rintro e w2 ⟨rfl, hb⟩
            have HW := Lib.hid (HW.out.trans (hb.mono HW.out.size))
            have HO := Lib.hid (HO.out.below hb)
            have HA := Lib.hid (HA.out.below hb)
            have HB := Lib.hid (HB.out.below hb)
            have HC := Lib.hid (HC.out.below hb)
            clear hb
            go_wp2_with fail
            refine (live_s _ HO.out).mono ?_
            rintro e w3 ⟨rfl, hb⟩
            have HW := Lib.hid (HW.out.trans (hb.mono HW.out.size))
            have HO := Lib.hid (HO.out.below hb)
            have HA := Lib.hid (HA.out.below hb)
            have HB := Lib.hid (HB.out.below hb)
            have HC := Lib.hid (HC.out.below hb)
            clear hb
            go_wp2_with fail
            go_ret
            exact ⟨rfl, HW.out⟩
        · obtain ⟨x, hx⟩ : ∃ x, chkC al = x := ⟨_, rfl⟩
          have qx : (x != 0) = true := by rw [bne_iff_ne, ← hx]; exact ka
          have HX := Lib.hid hx
          clear hx ka
          go_enter Tryd.func10, Tryd.ntmps10
          go_wp2_with fail
          refine (few_k a an ac true _ (decide_eq_true (by omega))).mono ?_
          rintro e w' ⟨rfl, rfl⟩
          go_wp2_with fail
          refine (few_k b bn bc true _ (decide_eq_true (by omega))).mono ?_
          rintro e w' ⟨rfl, rfl⟩
          go_wp2_with fail
          refine (few_k c cn cc true _ (decide_eq_true (by omega))).mono ?_
          rintro e w' ⟨rfl, rfl⟩
          go_wp2_with fail
          refine (check_k a an ac al x _ HA.out HX.out).mono ?_
          rintro e w1 ⟨rfl, hb⟩
          have HW := Lib.hid (HW.out.trans (hb.mono HW.out.size))
          have HO := Lib.hid (HO.out.below hb)
          have HA := Lib.hid (HA.out.below hb)
          have HB := Lib.hid (HB.out.below hb)
          have HC := Lib.hid (HC.out.below hb)
          clear hb
          go_wp2_with fail
          refine (live_s _ HO.out).mono ?_
          rintro e w2 ⟨rfl, hb⟩
          have HW := Lib.hid (HW.out.trans (hb.mono HW.out.size))
          have HO := Lib.hid (HO.out.below hb)
          have HA := Lib.hid (HA.out.below hb)
          have HB := Lib.hid (HB.out.below hb)
          have HC := Lib.hid (HC.out.below hb)
          clear hb
          go_wp2_with fail
          go_ret
          exact ⟨rfl, HW.out⟩
      · go_enter Tryd.func10, Tryd.ntmps10
        go_wp2_with fail
        refine (few_k a an ac true _ (decide_eq_true (by omega))).mono ?_
        rintro e w' ⟨rfl, rfl⟩
        go_wp2_with fail
        refine (few_k b bn bc true _ (decide_eq_true (by omega))).mono ?_
        rintro e w' ⟨rfl, rfl⟩
        go_wp2_with fail
        refine (few_k c cn cc false _ (decide_eq_false (by omega))).mono ?_
        rintro e w' ⟨rfl, rfl⟩
        go_wp2_with fail
        refine (live_s _ HO.out).mono ?_
        rintro e w1 ⟨rfl, hb⟩
        have HW := Lib.hid (HW.out.trans (hb.mono HW.out.size))
        have HO := Lib.hid (HO.out.below hb)
        have HA := Lib.hid (HA.out.below hb)
        have HB := Lib.hid (HB.out.below hb)
        have HC := Lib.hid (HC.out.below hb)
        clear hb
        go_wp2_with fail
        go_ret
        exact ⟨rfl, HW.out⟩
    · go_enter Tryd.func10, Tryd.ntmps10
      go_wp2_with fail
      refine (few_k a an ac true _ (decide_eq_true (by omega))).mono ?_
      rintro e w' ⟨rfl, rfl⟩
      go_wp2_with fail
      refine (few_k b bn bc false _ (decide_eq_false (by omega))).mono ?_
      rintro e w' ⟨rfl, rfl⟩
      go_wp2_with fail
      refine (live_s _ HO.out).mono ?_
      rintro e w1 ⟨rfl, hb⟩
      have HW := Lib.hid (HW.out.trans (hb.mono HW.out.size))
      have HO := Lib.hid (HO.out.below hb)
      have HA := Lib.hid (HA.out.below hb)
      have HB := Lib.hid (HB.out.below hb)
      have HC := Lib.hid (HC.out.below hb)
      clear hb
      go_wp2_with fail
      go_ret
      exact ⟨rfl, HW.out⟩
  · go_enter Tryd.func10, Tryd.ntmps10
    go_wp2_with fail
    refine (few_k a an ac false _ (decide_eq_false (by omega))).mono ?_
    rintro e w' ⟨rfl, rfl⟩
    go_wp2_with fail
    refine (live_s _ HO.out).mono ?_
    rintro e w1 ⟨rfl, hb⟩
    have HW := Lib.hid (HW.out.trans (hb.mono HW.out.size))
    have HO := Lib.hid (HO.out.below hb)
    have HA := Lib.hid (HA.out.below hb)
    have HB := Lib.hid (HB.out.below hb)
    have HC := Lib.hid (HC.out.below hb)
    clear hb
    go_wp2_with fail
    go_ret
    exact ⟨rfl, HW.out⟩

theorem lattice_types : ∀ t ∈ [39, 39, 39], Tryd.prog.readableRec t = true ∧ t < Tryd.prog.types.size := by
  have h : ([39, 39, 39].all fun t => Tryd.prog.readableRec t && decide (t < Tryd.prog.types.size)) = true := by kernel_rfl
  intro t ht
  have := List.all_eq_true.1 h t ht
  simpa using this

set_option maxRecDepth 100000 in
theorem lattice_contract (H : Type) (enc : TypeId × Value → H) (W : World) (base : Nat) (args : Array Value) (ds gs : List (DataW H)) (before : List MemPlace)
    (hval : ∀ (j : Nat) t v, Tryd.f10.params[j]? = some t → args[j]? = some v → Value.okWide Tryd.prog W .any base t v)
    (hW : DataW.Whole enc Tryd.prog Tryd.f10.params.toList Rows.csnLatticeSpec.vars false W args.toList ds gs before) (hL : laidMetH Tryd.prog Rows.csnLatticeRow.laid W) (hsh : W.ShapedOpen Tryd.prog) :
    Calls Tryd.prog 10 args W fun e W' => ∃ v, e = .returned v ∧ Rows.csnLatticeSpec.post enc Tryd.prog Tryd.f10 false true false false W args v W' := by
  have hW' := hW
  obtain ⟨p, q, hA0, hV, rfl, hfz, hnd⟩ := hW
  have hA : DataW.TrodAll enc Tryd.prog W 0 (fun _ => true) true Tryd.f10.params.toList args.toList ds p := hA0
  obtain ⟨rfl, rfl⟩ := trodVars_none hV
  simp only [List.append_nil] at hW'
  have hlt : ∀ x ∈ p, x.block < W.heap.size := fun x hx => by simpa using hW'.lt x hx
  have fin : ∀ W', Below W.heap.size W W' → DataW.TrodAll enc Tryd.prog W' 0 (fun b => decide (b < W.heap.size)) true [39, 39, 39] args.toList ds p := fun W' hb => by
    rw [Tryd.params10] at hA
    exact trodAll_below hb _ _ _ _ lattice_types hA hlt
  clear hA0
  rw [Tryd.params10] at hA hval
  obtain ⟨v0, vs0, d0, ds0, p0, q0, hargs, rfl, hp0, h0, r0⟩ := trodAll_cons hA
  obtain ⟨v1, vs1, d1, ds1, p1, q1, rfl, rfl, hp1, h1, r1⟩ := trodAll_cons r0
  obtain ⟨v2, vs2, d2, ds2, p2, q2, rfl, rfl, hp2, h2, r2⟩ := trodAll_cons r1
  obtain ⟨rfl, rfl, rfl⟩ := trodAll_nil r2
  obtain rfl : args = #[v0, v1, v2] := by cases args; simp_all
  obtain ⟨a, an, ac, al, rfl, hs0⟩ := open_cns (hval 0 39 v0 rfl rfl) h0
  obtain ⟨b, bn, bc, bl, rfl, hs1⟩ := open_cns (hval 1 39 v1 rfl rfl) h1
  obtain ⟨c, cn, cc, cl, rfl, hs2⟩ := open_cns (hval 2 39 v2 rfl rfl) h2
  refine (lattice_s a an ac al b bn bc bl c cn cc cl W hs0 hs1 hs2 (wok_of hL hsh)).mono fun e W' ⟨he, hb⟩ => ?_
  subst he
  exact ⟨_, rfl, _, _, _, [], p, [], hW', trodAll_mk1 (shut_bool Tryd.underlying4 _), fin W' hb, rfl, hb.frame _, fun h => by cases h⟩

set_option maxRecDepth 100000 in
theorem lattice_lifted (os : Os) (started : os.Started) (H : Type) (enc : TypeId × Value → H) (F : Stop.Interp) :
    ReturnsInHanded {} Tryd.checked os 10 .any ((OpenSpec.ofChange Rows.csnLatticeSpec).preRow enc Tryd.prog Tryd.f10 Rows.csnLatticeRow.domain false Rows.csnLatticeRow.laid) (((OpenSpec.ofChange Rows.csnLatticeSpec).at F).post enc Tryd.prog Tryd.f10 false true false false) := by
  refine returnsInHanded_of_row (C := Tryd.checked) (s := OpenSpec.ofChange Rows.csnLatticeSpec) own started (by kernel_rfl) Tryd.func10
    (witness_row (enc := enc) (C := Tryd.checked) false (World.laidAll Tryd.prog os Rows.csnLatticeRow.laid) #[.slice none 0 0, .slice none 0 0, .slice none 0 0] (World.laidAll_os _ _ _)
      (World.shaped_of_ZipB (by kernel_rfl) (by kernel_rfl)) (by kernel_rfl)
      (OpenSpec.preRow_of_cond 8 (x := ([.nil, .nil, .nil], [], [])) (by kernel_rfl) (by kernel_rfl) (fun k hk => by cases hk) (by kernel_rfl)
        (by rw [MakeChecks.laidMetH_plain _ _ _ (by kernel_rfl)]; exact laidMet_laidAll _ (by kernel_rfl) (by kernel_rfl)))) ?_
  intro W base args ds gs before hval hW _ _ _ hL hsh _
  exact lattice_contract H enc W base args ds gs before hval hW hL hsh

set_option maxRecDepth 100000 in
theorem lattice_said : Rows.CsnLatticeSaid :=
  OpenClaim.holds_of_cond 10 Tryd.f10 rfl rfl rfl rfl rfl rfl rfl ⟨rfl, rfl, rfl, rfl, rfl⟩ rfl rfl rfl rfl rfl (by kernel_rfl) Tryd.func10 (by kernel_rfl)
    (of_decide_eq_true (by kernel_rfl)) (by unfold Func.isWrapper; first | (rw [if_pos (by decide +kernel)]; kernel_rfl) | (rw [if_neg (by decide +kernel)]; exact ⟨rfl, rfl⟩))
    (fun os started H enc _ F => by rw [OpenClaim.pre_eq_preRow]; exact lattice_lifted os started H enc F)

set_option maxRecDepth 100000 in
theorem lattice_plain (f : FuncId) (fn : Func) (hf : Tryd.pinned.checked.prog.funcNamed "identity/identitylaw15.CsnLattice" = some f) (hfn : Tryd.pinned.checked.prog.funcs[f]? = some fn) :
    false = Tryd.pinned.checked.prog.looks [] ∧ ∀ (j : Nat) t, fn.params[j]? = some t → Tryd.pinned.checked.prog.wantsStandIn t = false := by
  obtain rfl : f = 10 := Option.some.inj ((show Tryd.prog.funcNamed "identity/identitylaw15.CsnLattice" = some 10 by kernel_rfl).symm.trans hf) |>.symm
  obtain rfl : fn = Tryd.f10 := (Option.some.inj (Tryd.func10.symm.trans hfn)).symm
  refine ⟨by kernel_rfl, fun j t ht => ?_⟩
  rw [Tryd.params10] at ht
  have hm : t ∈ [39, 39, 39] := by simpa using Array.mem_of_getElem? ht
  have hall : ([39, 39, 39].all fun u => !Tryd.prog.wantsStandIn u) = true := by kernel_rfl
  exact (show Tryd.prog.wantsStandIn t = false by simpa using List.all_eq_true.1 hall t hm)

/-- THE CARD -/
theorem lattice_card : Rows.CsnLatticeCardSaid :=
  Claim7.holds_tied_plain_at .later [] _ _ _ _ lattice_said (fun _ h => by cases h) (by kernel_rfl) (fun _ h => by cases h) csnLattice_row_tie rfl ⟨rfl, rfl⟩ (by kernel_rfl) rfl lattice_plain (by kernel_rfl)
end Go.Proofs.YtcnhkoijphfibaaDoor
