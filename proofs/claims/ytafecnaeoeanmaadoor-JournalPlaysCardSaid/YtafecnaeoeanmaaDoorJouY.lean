/-
  The law's example returns true.
-/
import Derived.Test.YtafecnaeoeanmaaDoorJouX
set_option maxRecDepth 100000
set_option linter.unusedVariables false
set_option linter.unusedSimpArgs false
set_option linter.unnecessarySimpa false
namespace Go.Proofs.YtafecnaeoeanmaaDoor
open Go.RowKit Go.PlainAid

theorem WJ.at {w W : World} (h : WJ w) (hb : Below w.heap.size w W) : WJ W := h.below hb
set_option maxHeartbeats 8000000 in
theorem live_s (w : World) (ho : WJ w) : Calls Tryd.prog 9 #[] w fun e w' => e = .returned (.bool true) ∧ Below w.heap.size w w' := by
  have HW := Lib.hid (Below.refl w.heap.size w)
  have HO := Lib.hid ho
  clear ho
  obtain ⟨ab, hab⟩ : ∃ x, encS sAB = x := ⟨_, rfl⟩
  obtain ⟨t, ht⟩ : ∃ x, txtS sAB = x := ⟨_, rfl⟩
  have hcat : ((⟨#[50, 58, 97, 98]⟩ : ByteArray) ++ t) ++ ⟨#[10]⟩ = ab := by rw [← ht, ← hab]; exact enc_ab
  have zab : ab.size = 21 := by rw [← hab, enc_sz1 _ (by decide)]; rfl
  have zt : t.size = 16 := by rw [← ht]; exact txt_sz _
  obtain ⟨x, hx⟩ : ∃ x, ab ++ (⟨#[50, 58, 97]⟩ : ByteArray) = x := ⟨_, rfl⟩
  have zx : x.size ≤ 1000000000 := by rw [← hx, ByteArray.size_append, zab]; decide
  have HX := Lib.hid (show decS x = [sAB] by rw [← hx, ← hab]; exact dec_ab)
  obtain ⟨xd, hxd⟩ : ∃ x, encS sD = x := ⟨_, rfl⟩
  have zxd : xd.size = 20 := by rw [← hxd, enc_sz1 _ (by decide)]; rfl
  obtain ⟨y, hy⟩ : ∃ x, ab ++ xd = x := ⟨_, rfl⟩
  have HY := Lib.hid (show encsS ([sAB, sD].take 2) = y by rw [← hy, ← hab, ← hxd]; exact bytes_ad)
  have HAB := Lib.hid hab
  have HT := Lib.hid ht
  have HXD := Lib.hid hxd
  clear hab ht hxd
  have s1 : (⟨#[50, 58, 97, 98]⟩ : ByteArray).size = 4 := rfl
  have s2 : (⟨#[10]⟩ : ByteArray).size = 1 := rfl
  have s3 : (⟨#[50, 58, 97]⟩ : ByteArray).size = 3 := rfl
  have y1 : ¬ (9223372036854775807 < 4 + t.size) := by omega
  have y2 : ¬ (9223372036854775807 < 4 + t.size + 1) := by omega
  have y3 : ¬ (9223372036854775807 < ab.size + 3) := by omega
  have y4 : ¬ (9223372036854775807 < ab.size + xd.size) := by omega
  have qab : (ab.toList != ab.toList) = false := by simp
  have qy : (y.toList == y.toList) = true := by simp
  have qs : ((⟨#[97, 98]⟩ : ByteArray).toList != (⟨#[97, 98]⟩ : ByteArray).toList) = false := by simp
  go_enter Tryd.func9, Tryd.ntmps9
  go_wp2_with fail
  refine (encode_k sAB ab _ (by decide) (HO.out.at HW.out) HAB.out).mono ?_
  rintro e w1 ⟨rfl, hb⟩
  have HW := Lib.hid (HW.out.trans (hb.mono HW.out.size))
  clear hb
  go_wp2_with fail
  refine (text_k sAB t _ (by decide) HT.out).mono ?_
  rintro e w2 ⟨rfl, hb⟩
  have HW := Lib.hid (HW.out.trans (hb.mono HW.out.size))
  clear hb
  go_wp2_with fail
  refine (decode_k x [sAB] 21 _ zx (HO.out.at HW.out) HX.out sz_ab).mono ?_
  rintro e w3 ⟨u, rfl, hu, hb⟩
  have HW := Lib.hid (HW.out.trans (hb.mono HW.out.size))
  clear hb
  obtain ⟨ug, uc, hu', hug⟩ := hu.form (by decide)
  subst hu'
  have HL := Lib.hid (hu.cells rfl 0 _ rfl)
  have HLg := Lib.hid hug.2
  clear hu hug
  go_wp2_with fail
  refine (new_s _ (HO.out.at HW.out)).mono ?_
  rintro e w4 ⟨b, v, rfl, hj, hb⟩
  have HJ := Lib.hid (hj.mono HW.out.size)
  have HL := Lib.hid ((hb.cell (p := ⟨ug, 0, none⟩) HLg.out).trans HL.out)
  have HLg := Lib.hid (Nat.lt_of_lt_of_le HLg.out hb.size)
  clear hj
  have HW := Lib.hid (HW.out.trans (hb.mono HW.out.size))
  clear hb
  go_wp2_with fail
  refine (open_s ⟨#[]⟩ _ (by decide) (HO.out.at HW.out)).mono ?_
  rintro e w5 ⟨b2, v2, rfl, hj, hb⟩
  have HJ2 := Lib.hid (show JA _ _ _ [] 0 _ from hj)
  have HL := Lib.hid ((hb.cell (p := ⟨ug, 0, none⟩) HLg.out).trans HL.out)
  clear hj
  have HW := Lib.hid (HW.out.trans (hb.mono HW.out.size))
  have HJ := Lib.hid (HJ.out.step hb)
  clear hb
  have hl0 : w5.cell? ⟨ug, 0, none⟩ = some (.string ⟨#[97, 98]⟩) := HL.out
  go_wp2_with fail
  clear hl0
  refine (durable_s _ b2 0 [] v2 _ HJ2.out).mono ?_
  rintro e w' ⟨rfl, rfl⟩
  go_wp2_with fail
  refine (append_yes _ b 0 [] _ sAB _ HJ.out (by decide) (by decide)).mono ?_
  rintro e w6 ⟨rfl, v3, hj, hm⟩
  have HW := Lib.hid (HW.out.trans (hm.below HJ.out))
  have HJ := Lib.hid (show JA _ _ _ [sAB] 0 _ from hj)
  clear hj hm
  go_wp2_with fail
  refine (append_yes _ b 0 [sAB] _ sC _ HJ.out (by decide) (by decide)).mono ?_
  rintro e w7 ⟨rfl, v4, hj, hm⟩
  have HW := Lib.hid (HW.out.trans (hm.below HJ.out))
  have HJ := Lib.hid (show JA _ _ _ [sAB, sC] 0 _ from hj)
  clear hj hm
  go_wp2_with fail
  refine (durable_s _ b 0 [sAB, sC] _ _ HJ.out).mono ?_
  rintro e w' ⟨rfl, rfl⟩
  go_wp2_with fail
  refine (crash_s _ b 0 [sAB, sC] _ 25 _ HJ.out (HO.out.at HW.out)).mono ?_
  rintro e w8 ⟨rfl, v5, hj, hm⟩
  rw [crash_ab] at hj
  have HW := Lib.hid (HW.out.trans (hm.below HJ.out))
  have HJ := Lib.hid (show JA _ _ _ [sAB] 1 _ from hj)
  clear hj hm
  go_wp2_with fail
  refine (records_s _ b 1 [sAB] _ _ HJ.out).mono ?_
  rintro e w9 ⟨r, rfl, hr, hb⟩
  obtain ⟨ro, rc, hr'⟩ := row_slice hr
  subst hr'
  have HR := Lib.hid (rk_new HJ.out (l' := [sAB]) hr)
  clear hr
  have HW := Lib.hid (HW.out.trans (hb.mono HW.out.size))
  have HJ := Lib.hid (HJ.out.step hb)
  clear hb
  go_wp2_with fail
  refine (append_yes _ b 1 [sAB] _ sD _ HJ.out (by decide) (by decide)).mono ?_
  rintro e w10 ⟨rfl, v6, hj, hm⟩
  have HW := Lib.hid (HW.out.trans (hm.below HJ.out))
  have HR := Lib.hid (HR.out.move hm)
  have HJ := Lib.hid (show JA _ _ _ [sAB, sD] 1 _ from hj)
  clear hj hm
  go_wp2_with fail
  refine (sync_s _ b 1 [sAB, sD] _ _ HJ.out).mono ?_
  rintro e w11 ⟨rfl, hj, hm⟩
  have HW := Lib.hid (HW.out.trans (hm.below HJ.out))
  have HR := Lib.hid (HR.out.move hm)
  have HJ := Lib.hid (show JA _ _ _ [sAB, sD] 2 _ from hj)
  clear hj hm
  go_wp2_with fail
  refine (append_yes _ b 2 [sAB, sD] _ sE _ HJ.out (by decide) (by decide)).mono ?_
  rintro e w12 ⟨rfl, v7, hj, hm⟩
  have HW := Lib.hid (HW.out.trans (hm.below HJ.out))
  have HR := Lib.hid (HR.out.move hm)
  have HJ := Lib.hid (show JA _ _ _ [sAB, sD, sE] 2 _ from hj)
  clear hj hm
  go_wp2_with fail
  refine (crash_s _ b 2 [sAB, sD, sE] _ (-1) _ HJ.out (HO.out.at HW.out)).mono ?_
  rintro e w13 ⟨rfl, v8, hj, hm⟩
  rw [crash_de] at hj
  have HW := Lib.hid (HW.out.trans (hm.below HJ.out))
  have HR := Lib.hid (HR.out.move hm)
  have HJ := Lib.hid (show JA _ _ _ [sAB, sD] 2 _ from hj)
  clear hj hm
  go_wp2_with fail
  have HS := Lib.hid (strs_one w13 sAB)
  have hb := box_below w13 (.cells #[.string sAB] 9)
  have HW := Lib.hid (HW.out.trans (hb.mono HW.out.size))
  have HJ := Lib.hid (HJ.out.step hb)
  have HR := Lib.hid (HR.out.step hb)
  clear hb
  refine (same_k ro _ 1 1 rc 1 [sAB] [sAB] true _ (HR.out.strs rfl) HS.out (decide_eq_true rfl)).mono ?_
  rintro e w14 ⟨rfl, hb⟩
  have HW := Lib.hid (HW.out.trans (hb.mono HW.out.size))
  have HJ := Lib.hid (HJ.out.step hb)
  have HR := Lib.hid (HR.out.step hb)
  clear hb
  go_wp2_with fail
  refine (records_s _ b 2 [sAB, sD] _ _ HJ.out).mono ?_
  rintro e w15 ⟨r2, rfl, hr, hb⟩
  obtain ⟨so, sc, hr'⟩ := row_slice hr
  subst hr'
  have HR := Lib.hid (rk_new HJ.out (l' := [sAB, sD]) hr)
  clear hr
  have HW := Lib.hid (HW.out.trans (hb.mono HW.out.size))
  have HJ := Lib.hid (HJ.out.step hb)
  clear hb
  go_wp2_with fail
  have HS := Lib.hid (strs_two w15 sAB sD)
  have hb := box_below w15 (.cells #[.string sAB, .string sD] 9)
  have HW := Lib.hid (HW.out.trans (hb.mono HW.out.size))
  have HJ := Lib.hid (HJ.out.step hb)
  have HR := Lib.hid (HR.out.step hb)
  clear hb
  refine (same_k so _ 2 2 sc 2 [sAB, sD] [sAB, sD] true _ (HR.out.strs rfl) HS.out (decide_eq_true rfl)).mono ?_
  rintro e w16 ⟨rfl, hb⟩
  have HW := Lib.hid (HW.out.trans (hb.mono HW.out.size))
  have HJ := Lib.hid (HJ.out.step hb)
  have HR := Lib.hid (HR.out.step hb)
  clear hb
  go_wp2_with fail
  refine (durable_s _ b 2 [sAB, sD] _ _ HJ.out).mono ?_
  rintro e w' ⟨rfl, rfl⟩
  go_wp2_with fail
  refine (bytes_s _ b 2 [sAB, sD] _ _ HJ.out (HO.out.at HW.out)).mono ?_
  rintro e w17 ⟨rfl, hb⟩
  rw [HY.out]
  have HW := Lib.hid (HW.out.trans (hb.mono HW.out.size))
  have HJ := Lib.hid (HJ.out.step hb)
  have HR := Lib.hid (HR.out.step hb)
  clear hb
  go_wp2_with fail
  refine (encode_k sD xd _ (by decide) (HO.out.at HW.out) HXD.out).mono ?_
  rintro e w18 ⟨rfl, hb⟩
  have HW := Lib.hid (HW.out.trans (hb.mono HW.out.size))
  have HJ := Lib.hid (HJ.out.step hb)
  have HR := Lib.hid (HR.out.step hb)
  clear hb
  go_wp2_with fail
  refine (append_nil _ _).mono ?_
  rintro e w' ⟨rfl, rfl⟩
  go_wp2_with fail
  go_ret
  exact ⟨rfl, HW.out⟩

end Go.Proofs.YtafecnaeoeanmaaDoor
