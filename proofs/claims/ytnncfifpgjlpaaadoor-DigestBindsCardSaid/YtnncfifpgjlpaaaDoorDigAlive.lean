/-
  The contract of the law's awake: the chapter's examples. Condition: the library's table of powers lies as the program's text lays it.
-/
import Derived.Test.YtnncfifpgjlpaaaDoorDigAwake
set_option linter.unusedVariables false
set_option linter.unusedSimpArgs false
set_option linter.unnecessarySimpa false
namespace Go.Proofs.YtnncfifpgjlpaaaDoor
open Go.RowKit Go.PlainAid

theorem small3 : ∀ j, j < 3 → (partAt [⟨#[97]⟩, ⟨#[98]⟩, ⟨#[99]⟩] j).size ≤ 1000 := by decide
theorem strs_of_own {w : World} {base n cap : Nat} {ao : Option Addr} {l : List ByteArray} (h : w.ownsRow base 9 1 (.slice ao n cap) n (scells l)) (hn : l.length = n) : StrsAt w ao n cap l := by
  obtain ⟨a, c, e, k⟩ := strs_own h hn
  cases e; exact k

set_option maxRecDepth 100000 in
set_option maxHeartbeats 8000000 in
theorem awake_s (w : World) (ho : PowOk w) :
    Calls Tryd.prog 11 #[] w fun e w' => e = .returned (.bool true) ∧ Below w.heap.size w w' := by
  have B0 := Below.refl w.heap.size w
  have O0 := ho
  obtain ⟨A, hA⟩ : ∃ A, txtS ⟨#[48, 97]⟩ = A := ⟨_, rfl⟩
  obtain ⟨Bb, hBb⟩ : ∃ A, txtS ⟨#[48, 98]⟩ = A := ⟨_, rfl⟩
  obtain ⟨Cc, hCc⟩ : ∃ A, txtS ⟨#[48, 99]⟩ = A := ⟨_, rfl⟩
  have zA : A.size = 16 := by rw [← hA]; exact txtS_size _
  have zB : Bb.size = 16 := by rw [← hBb]; exact txtS_size _
  have zC : Cc.size = 16 := by rw [← hCc]; exact txtS_size _
  obtain ⟨AB, hAB⟩ : ∃ X, pairS A Bb = X := ⟨_, rfl⟩
  have HP2 := Lib.hid (show pathL ([⟨#[97]⟩, ⟨#[98]⟩, ⟨#[99]⟩].map leafS) 2 = [AB] by rw [path_2, hA, hBb, hAB])
  have HP0 := Lib.hid (show pathL ([⟨#[97]⟩, ⟨#[98]⟩, ⟨#[99]⟩].map leafS) 0 = [Bb, Cc] by rw [path_0, hBb, hCc])
  have HR1 := Lib.hid (show rootS ([⟨#[97]⟩, ⟨#[98]⟩, ⟨#[99]⟩].take 1) = A by rw [← hA]; exact root_a)
  have HR2 := Lib.hid (show rootS ([⟨#[97]⟩, ⟨#[98]⟩, ⟨#[99]⟩].take 2) = AB by rw [← hAB, ← hA, ← hBb]; exact root_ab)
  have HV1 := Lib.hid (show provesB A ⟨#[97]⟩ ((0 : Nat) : Int) ((1 : Nat) : Int) [] = true by rw [← hA]; exact proves_1)
  have HV2 := Lib.hid (show provesB A ⟨#[97]⟩ ((0 : Nat) : Int) ((2 : Nat) : Int) [] = false by rw [← hA]; exact proves_2)
  obtain ⟨T1, hT1⟩ : ∃ X, txtS ⟨#[49, 58, 107, 109]⟩ = X := ⟨_, rfl⟩
  obtain ⟨T2, hT2⟩ : ∃ X, txtS ⟨#[115, 124, 112]⟩ = X := ⟨_, rfl⟩
  have zT1 : T1.size = 16 := by rw [← hT1]; exact txtS_size _
  have zT2 : T2.size = 16 := by rw [← hT2]; exact txtS_size _
  obtain ⟨M, hM⟩ : ∃ X, txtS (⟨#[49, 58, 107]⟩ ++ T1) = X := ⟨_, rfl⟩
  obtain ⟨I, hI⟩ : ∃ X, txtS (T2 ++ ⟨#[124, 115]⟩) = X := ⟨_, rfl⟩
  obtain ⟨Ch, hCh⟩ : ∃ X, txtS ⟨#[97, 124, 98]⟩ = X := ⟨_, rfl⟩
  have HM1 := Lib.hid (show macS ⟨#[107]⟩ ⟨#[109]⟩ = M by rw [mac_1, hT1, hM])
  have HI1 := Lib.hid (show iterS ⟨#[115]⟩ ⟨#[112]⟩ 1 = I by rw [iter_1, hT2, hI])
  have HC1 := Lib.hid (show chainS ⟨#[97]⟩ ⟨#[98]⟩ = Ch by rw [chain_1, hCh])
  have HT1 := Lib.hid hT1; clear hT1
  have HT2 := Lib.hid hT2; clear hT2
  have HM2 := Lib.hid hM; clear hM
  have HI2 := Lib.hid hI; clear hI
  have HC2 := Lib.hid hCh; clear hCh
  have HAB2 := Lib.hid (show txtS (⟨#[49]⟩ ++ A ++ Bb) = AB from hAB)
  have Z1 := Lib.hid (show ((⟨#[49]⟩ : ByteArray) ++ A ++ Bb).size ≤ 1000000000 by rw [← pairQ, pairQ_size]; omega)
  have Z2 := Lib.hid (show ((⟨#[49, 58, 107]⟩ : ByteArray) ++ T1).size ≤ 1000000000 by rw [ByteArray.size_append, zT1]; decide)
  have Z3 := Lib.hid (show (T2 ++ (⟨#[124, 115]⟩ : ByteArray)).size ≤ 1000000000 by rw [ByteArray.size_append, zT2]; decide)
  have hA := hA
  have HA := Lib.hid hA; clear hA
  have HB := Lib.hid hBb; clear hBb
  have HC := Lib.hid hCc; clear hCc
  have HAB := Lib.hid hAB; clear hAB
  go_enter Tryd.func11, Tryd.ntmps11
  go_wp2_with fail
  refine (readHex_k _ _ _ _ (by decide) rd_1).mono ?_
  rintro e w' ⟨rfl, rfl⟩
  go_wp2_with fail
  refine (readHex_k _ _ _ _ (by decide) rd_2).mono ?_
  rintro e w' ⟨rfl, rfl⟩
  go_wp2_with fail
  refine (hex_k 255 _ _ (by decide) hex_1).mono ?_
  rintro e w1 ⟨rfl, hb⟩
  have B1 := B0.trans (hb.mono B0.size)
  have O1 := O0.below hb
  clear hb
  go_wp2_with fail
  refine (sum_k _ _ _ (by decide) sum_a).mono ?_
  rintro e w' ⟨rfl, rfl⟩
  go_wp2_with fail
  refine (sum_k _ _ _ (by decide) sum_b).mono ?_
  rintro e w' ⟨rfl, rfl⟩
  go_wp2_with fail
  refine (text_k _ A _ (by decide) HA.out).mono ?_
  rintro e w2 ⟨rfl, hb⟩
  have B2 := B1.trans (hb.mono B1.size)
  have O2 := O1.below hb
  clear hb
  go_wp2_with fail
  refine (text_k _ Bb _ (by decide) HB.out).mono ?_
  rintro e w3 ⟨rfl, hb⟩
  have B3 := B2.trans (hb.mono B2.size)
  have O3 := O2.below hb
  clear hb
  go_wp2_with fail
  refine (text_k _ Cc _ (by decide) HC.out).mono ?_
  rintro e w4 ⟨rfl, hb⟩
  have B4 := B3.trans (hb.mono B3.size)
  have O4 := O3.below hb
  clear hb
  have B5 := B4.alloc B4.size (.cells #[.string ⟨#[97]⟩, .string ⟨#[98]⟩, .string ⟨#[99]⟩] 9)
  have O5 := O4.below ((Below.refl w4.heap.size w4).alloc (Nat.le_refl _) (.cells #[.string ⟨#[97]⟩, .string ⟨#[98]⟩, .string ⟨#[99]⟩] 9))
  have L5 := strs_of_own (l := [⟨#[97]⟩, ⟨#[98]⟩, ⟨#[99]⟩]) (World.ownsRow_lit (size := 1) (base := w4.heap.size) (e := 9) w4 #[.string ⟨#[97]⟩, .string ⟨#[98]⟩, .string ⟨#[99]⟩] 3 (Nat.le_refl _) (by unfold maxLen; omega) rfl) rfl
  go_wp2_with fail
  refine (path_k _ _ _ [⟨#[97]⟩, ⟨#[98]⟩, ⟨#[99]⟩] [AB] 2 1 _ L5 (by decide) small3 (by decide) HP2.out rfl).mono ?_
  rintro e w6 ⟨⟨po, pc, rfl, P6⟩, hb⟩
  have B6 := B5.trans (hb.mono B5.size)
  have O6 := O5.below hb
  have L6 := L5.below hb
  clear hb L5
  go_wp2_with fail
  refine (path_k _ _ _ [⟨#[97]⟩, ⟨#[98]⟩, ⟨#[99]⟩] [Bb, Cc] 0 2 _ L6 (by decide) small3 (by decide) HP0.out rfl).mono ?_
  rintro e w7 ⟨⟨qo, qc, rfl, Q7⟩, hb⟩
  have B7 := B6.trans (hb.mono B6.size)
  have O7 := O6.below hb
  have L7 := L6.below hb
  have P7 := P6.below hb
  clear hb L6 P6
  go_wp2_with fail
  refine (path_bad _ _ _ [⟨#[97]⟩, ⟨#[98]⟩, ⟨#[99]⟩] 3 _ L7 (by decide) (.inr (by decide))).mono ?_
  rintro e w' ⟨rfl, rfl⟩
  obtain ⟨pb, pf, rfl, pw, pcell⟩ := P7.at (by decide)
  obtain ⟨qb, qf, rfl, qw, qcell⟩ := Q7.at (by decide)
  have pc0 := pcell _ (Below.refl _ _) 0 (by decide)
  have qc0 := qcell _ (Below.refl _ _) 0 (by decide)
  have qc1 := qcell _ (Below.refl _ _) 1 (by decide)
  rw [Nat.add_zero, partAt_zero] at pc0 qc0
  rw [show partAt [Bb, Cc] 1 = Cc from rfl] at qc1
  have HPC := Lib.hid pcell; clear pcell
  have HQC := Lib.hid qcell; clear qcell
  have L7t := L7.take 2 (by decide)
  have hq1 : (AB.toList == AB.toList) = true := beq_self_eq_true _
  have hq2 : (Bb.toList == Bb.toList) = true := beq_self_eq_true _
  have hq3 : (Cc.toList == Cc.toList) = true := beq_self_eq_true _
  have D7 : Below w.heap.size w w7.drew := B7.drew
  have O7d : PowOk w7.drew := O7.below ((Below.refl w7.heap.size w7).drew)
  have L7d := Lib.hid (L7t.below ((Below.refl w7.heap.size w7).drew))
  go_wp2_with fail
  go_region_held3 (fun w' => w'.cell? ⟨pb, pf, none⟩ = some (.string AB) ∧ w'.cell? ⟨qb, qf, none⟩ = some (.string Bb) ∧ w'.cell? ⟨qb, qf + 1, none⟩ = some (.string Cc))
    (first | go_keep | exact ⟨cell_later hb8 pc0, cell_later hb8 qc0, cell_later hb8 qc1⟩)
    (first | (go_at_call 29; refine (root_k _ _ _ _ AB _ L7d.out (by decide) (by decide) HR2.out).mono ?_; rintro e w8 ⟨rfl, hb8'⟩; have hb8 : Below w7.heap.size w7 w8 := ((Below.refl w7.heap.size w7).drew).trans hb8'))
  have B8 := B7.trans (hb8.mono B7.size)
  have O8 := O7.below hb8
  have L8 := L7.below hb8
  have hq4 : (A.toList == A.toList) = true := beq_self_eq_true _
  have hq5 : (M.toList == M.toList) = true := beq_self_eq_true _
  have hq6 : (I.toList == I.toList) = true := beq_self_eq_true _
  have hq7 : (Ch.toList == Ch.toList) = true := beq_self_eq_true _
  clear hb8 hb8' L7d L7t P7 Q7 HPC HQC pc0 qc0 qc1 D7 O7d
  go_wp2_with fail
  refine (root_k _ _ _ _ A _ (L8.take 1 (by decide)) (by decide) (by decide) HR1.out).mono ?_
  rintro e w9 ⟨rfl, hb⟩
  have B9 := B8.trans (hb.mono B8.size)
  have O9 := O8.below hb
  have L9 := L8.below hb
  clear hb
  go_wp2_with fail
  refine (root_k _ _ _ _ AB _ (L9.take 2 (by decide)) (by decide) (by decide) HR2.out).mono ?_
  rintro e w10 ⟨rfl, hb⟩
  have B10 := B9.trans (hb.mono B9.size)
  have O10 := O9.below hb
  have L10 := L9.below hb
  clear hb
  go_wp2_with fail
  refine (text_k _ AB _ Z1.out HAB2.out).mono ?_
  rintro e w11 ⟨rfl, hb⟩
  have B11 := B10.trans (hb.mono B10.size)
  have O11 := O10.below hb
  have L11 := L10.below hb
  clear hb
  go_wp2_with fail
  refine (mac_k _ _ M _ (by decide) (by decide) O11 HM1.out).mono ?_
  rintro e w12 ⟨rfl, hb⟩
  have B12 := B11.trans (hb.mono B11.size)
  have O12 := O11.below hb
  have L12 := L11.below hb
  clear hb
  go_wp2_with fail
  refine (text_k _ T1 _ (by decide) HT1.out).mono ?_
  rintro e w13 ⟨rfl, hb⟩
  have B13 := B12.trans (hb.mono B12.size)
  have O13 := O12.below hb
  have L13 := L12.below hb
  clear hb
  go_wp2_with fail
  refine (text_k _ M _ Z2.out HM2.out).mono ?_
  rintro e w14 ⟨rfl, hb⟩
  have B14 := B13.trans (hb.mono B13.size)
  have O14 := O13.below hb
  have L14 := L13.below hb
  clear hb
  go_wp2_with fail
  refine (iterate_k _ _ I _ _ (by decide) (by decide) (by decide) (by decide) HI1.out).mono ?_
  rintro e w15 ⟨rfl, hb⟩
  have B15 := B14.trans (hb.mono B14.size)
  have O15 := O14.below hb
  have L15 := L14.below hb
  clear hb
  go_wp2_with fail
  refine (text_k _ T2 _ (by decide) HT2.out).mono ?_
  rintro e w16 ⟨rfl, hb⟩
  have B16 := B15.trans (hb.mono B15.size)
  have O16 := O15.below hb
  have L16 := L15.below hb
  clear hb
  go_wp2_with fail
  refine (text_k _ I _ Z3.out HI2.out).mono ?_
  rintro e w17 ⟨rfl, hb⟩
  have B17 := B16.trans (hb.mono B16.size)
  have O17 := O16.below hb
  have L17 := L16.below hb
  clear hb
  go_wp2_with fail
  refine (chain_k _ _ Ch _ (by decide) (by decide) HC1.out).mono ?_
  rintro e w18 ⟨rfl, hb⟩
  have B18 := B17.trans (hb.mono B17.size)
  have O18 := O17.below hb
  have L18 := L17.below hb
  clear hb
  go_wp2_with fail
  refine (text_k _ Ch _ (by decide) HC2.out).mono ?_
  rintro e w19 ⟨rfl, hb⟩
  have B19 := B18.trans (hb.mono B18.size)
  have O19 := O18.below hb
  have L19 := L18.below hb
  clear hb
  go_wp2_with fail
  refine (proves_k A _ 0 1 _ _ _ [] true _ (by decide) (by decide) (by decide) (strs_nil _) (by decide) (fun j hj => absurd hj (Nat.not_lt_zero _)) HV1.out).mono ?_
  rintro e w20 ⟨rfl, hb⟩
  have B20 := B19.trans (hb.mono B19.size)
  have O20 := O19.below hb
  have L20 := L19.below hb
  clear hb
  go_wp2_with fail
  refine (proves_k A _ 0 2 _ _ _ [] false _ (by decide) (by decide) (by decide) (strs_nil _) (by decide) (fun j hj => absurd hj (Nat.not_lt_zero _)) HV2.out).mono ?_
  rintro e w21 ⟨rfl, hb⟩
  have B21 := B20.trans (hb.mono B20.size)
  have O21 := O20.below hb
  have L21 := L20.below hb
  clear hb
  go_wp2_with fail
  go_ret
  exact ⟨rfl, B21⟩

end Go.Proofs.YtnncfifpgjlpaaaDoor
