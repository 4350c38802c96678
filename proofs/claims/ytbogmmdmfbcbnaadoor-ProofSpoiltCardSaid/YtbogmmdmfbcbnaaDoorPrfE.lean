/-
  The contract of the law's live. Condition: at most 1000000 bytes; the library's variables are there.
-/
import Derived.Test.YtbogmmdmfbcbnaaDoorPrfD
set_option maxRecDepth 100000
set_option linter.unusedVariables false
set_option linter.unusedSimpArgs false
set_option linter.unnecessarySimpa false
namespace Go.Proofs.YtbogmmdmfbcbnaaDoor
open Go.RowKit Go.PlainAid Go.Maps

/-! ### live -/
def sLet : ByteArray := ⟨#[97, 97, 97, 97, 97, 97, 97, 97, 97, 97, 97, 97, 97, 97, 97, 97, 97, 97, 97, 97, 97, 97, 97, 97, 97, 97, 97, 97, 97, 97, 97, 97, 97, 97, 97, 97, 97, 97, 97, 97, 97, 97, 97]⟩
def sL42 : ByteArray := ⟨#[97, 97, 97, 97, 97, 97, 97, 97, 97, 97, 97, 97, 97, 97, 97, 97, 97, 97, 97, 97, 97, 97, 97, 97, 97, 97, 97, 97, 97, 97, 97, 97, 97, 97, 97, 97, 97, 97, 97, 97, 97, 97]⟩
def sK : ByteArray := ⟨#[107]⟩
def sS1 : ByteArray := ⟨#[115, 49]⟩
def sR1 : ByteArray := ⟨#[114, 49]⟩
def sAB : ByteArray := ⟨#[97, 46, 98]⟩
def sSs : ByteArray := ⟨#[115]⟩
theorem lv1 : chE 1 sLet = 0 ∧ chS 1 sLet = sLet := ch_1 (by decide +kernel)
theorem lv2 : chE 3 ⟨#[]⟩ = 2 ∧ chS 3 ⟨#[]⟩ = ⟨#[]⟩ := ch_no (by decide)
theorem lv3 : chE 1 sL42 = 4 ∧ chS 1 sL42 = ⟨#[]⟩ := ch_bad (Or.inl rfl) (by decide +kernel)
theorem lv_cut : sLet.extract 0 42 = sL42 := by decide +kernel
theorem lv_s1 : plB sS1 = true := by decide +kernel
theorem lv_r1 : plB sR1 = true := by decide +kernel
theorem lv_ab : plB sAB = false := by decide +kernel
theorem lv4 : bndS sK sS1 sAB = ⟨#[]⟩ := bnd_no (by rw [lv_ab]; rintro ⟨_, h⟩; cases h)
theorem lv5 : BdE sK sS1 (bndS sK sS1 sR1) (sR1, 0) := .inr ⟨sR1, lv_s1, bnd_nm lv_s1 lv_r1, by rw [if_pos rfl]⟩
theorem lv6 : BdE sK sS1 sR1 (⟨#[]⟩, 4) := .inl ⟨rfl, .inr fun q h => by
  have := nm_size h
  have z : sR1.size = 2 := rfl
  omega⟩
theorem lv7 : valB sLet = true := by decide +kernel
theorem lv8 : valB ⟨#[]⟩ = false := by decide +kernel
theorem lv9 : (bndS sK sS1 sR1).size = 19 := bnd_size lv_s1 lv_r1
theorem lv10 : (bndS sK sS1 sR1).extract 0 3 = ⟨#[114, 49, 46]⟩ := by
  obtain ⟨code, h, _, _⟩ := bnd_nm (sec := sK) lv_s1 lv_r1
  rw [Lib.extract_eq, h]; rfl
theorem dec1 : Lib.itoa 1 = [49] := by
  rw [show (1 : Int) = ((1 : Nat) : Int) from rfl, Lib.itoa_nonneg, Lib.decDigits, dif_pos (by omega)]; rfl
theorem dec2' : Lib.itoa 2 = [50] := by
  rw [show (2 : Int) = ((2 : Nat) : Int) from rfl, Lib.itoa_nonneg, Lib.decDigits, dif_pos (by omega)]; rfl
theorem txt_ne : txtS ⟨#[49, 58, 115]⟩ ≠ txtS ⟨#[50, 58, 115]⟩ := by decide +kernel
theorem lv11 : unS sSs 1 ≠ unS sSs 2 := by
  unfold unS
  rw [dec1, dec2']
  intro h
  exact txt_ne (ba_append_left h)
theorem unS_size (s : ByteArray) (n : Int) : (unS s n).size = 17 := by
  unfold unS; rw [ByteArray.size_append, txtS_size]; rfl
theorem lv12 : ckE 1 ⟨#[]⟩ sLet = 20 := by unfold ckE; rw [lv1.1, if_pos rfl, lv1.2, if_neg (by decide)]
theorem lv13 : unS ⟨#[]⟩ 0 = unS ⟨#[]⟩ 0 := rfl
set_option maxHeartbeats 8000000 in
theorem live_s (w : World) (ho : POk w) :
    Calls Tryd.prog 10 #[] w fun e w' => e = .returned (.bool true) ∧ Below w.heap.size w w' := by
  have HO := Lib.hid ho
  obtain ⟨s, hs⟩ : ∃ s, bndS sK sS1 sR1 = s := ⟨_, rfl⟩
  have z19 := lv9
  have e3 := lv10
  have h5 := lv5
  rw [hs] at z19 e3 h5
  obtain ⟨u1, hu1⟩ : ∃ u, unS sSs 1 = u := ⟨_, rfl⟩
  obtain ⟨u2, hu2⟩ : ∃ u, unS sSs 2 = u := ⟨_, rfl⟩
  obtain ⟨u3, hu3⟩ : ∃ u, unS ⟨#[]⟩ 0 = u := ⟨_, rfl⟩
  have z17 := unS_size ⟨#[]⟩ 0
  rw [hu3] at z17
  have hne := lv11
  rw [hu1, hu2] at hne
  obtain ⟨n1, n2⟩ := str_ne hne
  have ecut := lv_cut
  have C1 := Lib.hid (fun W => challenge_k 1 sLet sLet 0 W (by decide) (by decide) (by decide) lv1.2 lv1.1)
  have C2 := Lib.hid (fun W => challenge_k 3 ⟨#[]⟩ ⟨#[]⟩ 2 W (by decide) (by decide) (by decide) lv2.2 lv2.1)
  have C3 := Lib.hid (fun W => challenge_k 1 sL42 ⟨#[]⟩ 4 W (by decide) (by decide) (by decide) lv3.2 lv3.1)
  have C4 := Lib.hid (fun W hW => bind_k sK sS1 sR1 s W (by decide) (by decide) (by decide) hW hs)
  have C5 := Lib.hid (fun W hW => bound_k sK sS1 s sR1 0 W (by decide) (by decide) (by omega) hW h5)
  have C6 := Lib.hid (fun W hW => bound_k sK sS1 sR1 ⟨#[]⟩ 4 W (by decide) (by decide) (by decide) hW lv6)
  have C7 := Lib.hid (fun W => valid_k sLet true W (by decide) lv7)
  have C8 := Lib.hid (fun W => valid_k ⟨#[]⟩ false W (by decide) lv8)
  have C9 := Lib.hid (fun W hW => bind_k sK sS1 sAB ⟨#[]⟩ W (by decide) (by decide) (by decide) hW lv4)
  have C10 := Lib.hid (fun W hW => unique_k sSs 1 u1 W (by decide) (by decide) (by decide) hW hu1)
  have C11 := Lib.hid (fun W hW => unique_k sSs 2 u2 W (by decide) (by decide) (by decide) hW hu2)
  have C12 := Lib.hid (fun W hW => unique_k ⟨#[]⟩ 0 u3 W (by decide) (by decide) (by decide) hW hu3)
  have C13 := Lib.hid (fun W => check_k 1 ⟨#[]⟩ sLet 20 W (by decide) (by decide) (by decide) lv12)
  unfold sLet at C1 C7 C13 ecut
  unfold sL42 at C3 ecut
  unfold sK sS1 at C4 C5 C6 C9
  unfold sR1 at C4 C5 C6
  unfold sAB at C9
  unfold sSs at C10 C11
  clear ho hs h5 hu1 hu2 hu3 hne
  go_enter Tryd.func10, Tryd.ntmps10
  go_wp2_with fail
  refine (C1.out _).mono ?_
  rintro e w1 ⟨rfl, hb⟩
  have HB := Lib.hid hb
  have HO := Lib.hid (HO.out.below hb)
  clear hb
  go_wp2_with fail
  refine (C2.out _).mono ?_
  rintro e w2 ⟨rfl, hb⟩
  have HB := Lib.hid (HB.out.trans (hb.mono HB.out.size))
  have HO := Lib.hid (HO.out.below hb)
  clear hb
  go_wp2_with fail
  refine (C3.out _).mono ?_
  rintro e w3 ⟨rfl, hb⟩
  have HB := Lib.hid (HB.out.trans (hb.mono HB.out.size))
  have HO := Lib.hid (HO.out.below hb)
  clear hb
  go_wp2_with fail
  refine (C4.out _ HO.out).mono ?_
  rintro e w4 ⟨rfl, hb⟩
  have HB := Lib.hid (HB.out.trans (hb.mono HB.out.size))
  have HO := Lib.hid (HO.out.below hb)
  clear hb
  go_wp2_with fail
  refine (C5.out _ HO.out).mono ?_
  rintro e w5 ⟨rfl, hb⟩
  have HB := Lib.hid (HB.out.trans (hb.mono HB.out.size))
  have HO := Lib.hid (HO.out.below hb)
  clear hb
  go_wp2_with fail
  refine (C6.out _ HO.out).mono ?_
  rintro e w6 ⟨rfl, hb⟩
  have HB := Lib.hid (HB.out.trans (hb.mono HB.out.size))
  have HO := Lib.hid (HO.out.below hb)
  clear hb
  go_wp2_with fail
  refine (C7.out _).mono ?_
  rintro e w' ⟨rfl, rfl⟩
  go_wp2_with fail
  refine (C8.out _).mono ?_
  rintro e w' ⟨rfl, rfl⟩
  go_wp2_with fail
  refine (C9.out _ HO.out).mono ?_
  rintro e w7 ⟨rfl, hb⟩
  have HB := Lib.hid (HB.out.trans (hb.mono HB.out.size))
  have HO := Lib.hid (HO.out.below hb)
  clear hb
  go_wp2_with fail
  refine (C10.out _ HO.out).mono ?_
  rintro e w8 ⟨rfl, hb⟩
  have HB := Lib.hid (HB.out.trans (hb.mono HB.out.size))
  have HO := Lib.hid (HO.out.below hb)
  clear hb
  go_wp2_with fail
  refine (C11.out _ HO.out).mono ?_
  rintro e w9 ⟨rfl, hb⟩
  have HB := Lib.hid (HB.out.trans (hb.mono HB.out.size))
  have HO := Lib.hid (HO.out.below hb)
  clear hb
  go_wp2_with fail
  refine (C12.out _ HO.out).mono ?_
  rintro e w10 ⟨rfl, hb⟩
  have HB := Lib.hid (HB.out.trans (hb.mono HB.out.size))
  have HO := Lib.hid (HO.out.below hb)
  clear hb
  go_wp2_with fail
  refine (C13.out _).mono ?_
  rintro e w11 ⟨rfl, hb⟩
  have HB := Lib.hid (HB.out.trans (hb.mono HB.out.size))
  have HO := Lib.hid (HO.out.below hb)
  clear hb
  go_wp2_with fail
  go_ret
  exact ⟨rfl, HB.out⟩
end Go.Proofs.YtbogmmdmfbcbnaaDoor
