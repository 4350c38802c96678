/-
  The contract of the laws' alive: the chapter's examples. Condition: the library's table of powers lies as it should.
-/
import Derived.Test.YtmkcojgdhdmnnaaDoorOtpH
import Derived.Deep.RegionHeld3
set_option maxRecDepth 100000
set_option linter.unusedVariables false
set_option linter.unusedSimpArgs false
set_option linter.unnecessarySimpa false
namespace Go.Proofs.YtmkcojgdhdmnnaaDoor
open Go.RowKit Go.PlainAid

def secW : ByteArray := ⟨#[115, 101, 99, 114, 101, 116]⟩
theorem secW_clean : cleanB secW = true := by decide +kernel
theorem nilW_clean : cleanB (⟨#[]⟩ : ByteArray) = false := by decide +kernel
theorem av_code {c : ByteArray} (h : codeS secW 7 = c) : codR secW 7 = (c, 0) := by
  unfold codR mostC; rw [secW_clean, if_pos rfl, if_pos (by decide), h]
theorem av_code2 : codR (⟨#[]⟩ : ByteArray) 1 = (⟨#[]⟩, 4) := by
  unfold codR; rw [nilW_clean, if_neg (by decide)]
theorem av_ver {c : ByteArray} (h : codeS secW 7 = c) : verR secW 6 1 c = (7, 0) := by
  unfold verR
  rw [secW_clean, ← h, codeS_isC, show (true && true) = true from rfl, if_pos rfl, if_pos ⟨lstB_yes (by decide) (by decide), by decide, by decide⟩]
  exact fndR_eq (by decide) (by decide) (by unfold mostC; decide) rfl (fun d h1 h2 => absurd h2 (by omega))
theorem av_ver2 {c : ByteArray} (h : codeS secW 7 = c) : verR secW 7 0 c = (0, 11) := by
  unfold verR
  rw [secW_clean, ← h, codeS_isC, show (true && true) = true from rfl, if_pos rfl, if_pos ⟨lstB_yes (by decide) (by decide), by decide, by decide⟩]
  unfold fndR
  rw [show (min (7 + 0) mostC + 1 - (7 + 1) : Int).toNat = 0 by unfold mostC; decide]
  rfl
theorem av_at {c : ByteArray} (h : codeS secW 7 = c) : vatR secW 6 210 0 c = (7, 0) := by
  unfold vatR
  rw [secW_clean, ← h, codeS_isC, show (true && true) = true from rfl, if_pos rfl, if_pos (lstB_yes (by decide) (by decide))]
  exact fndR_eq (by decide) (by decide) (by unfold mostC; decide) rfl (fun d h1 h2 => absurd h2 (by have : max (6 + 1 : Int) (ctrI 210 - skewI 0 / 30) = 7 := by decide
                                                                                                    omega))
theorem av_red : redR [⟨#[97]⟩, ⟨#[98]⟩, ⟨#[97]⟩] (⟨#[97]⟩ : ByteArray) = ([⟨#[98]⟩, ⟨#[97]⟩], 0) := by decide +kernel
theorem av_red2 : redR [⟨#[98]⟩, ⟨#[97]⟩] (⟨#[99]⟩ : ByteArray) = ([], 6) := by decide +kernel
theorem av_rec {a b : ByteArray} (ha : recS secW 0 = a) (hb : recS secW 1 = b) : recR secW 2 = ([a, b], 0) := by
  unfold recR
  rw [secW_clean, if_pos rfl, if_pos (by decide), ← ha, ← hb]; rfl
theorem av_ctr : ctrI 59 = 1 := by decide
theorem strs_lit (w : World) (l : List ByteArray) (cs : Array Value) (h : cs.toList = scells l) (hl : l.length ≤ 1000000) : StrsAt (w.alloc (.cells cs 9)) (some ⟨w.heap.size, 0, none⟩) l.length l.length l := by
  refine ⟨rfl, Nat.le_refl _, by unfold maxLen; omega, fun _ => ⟨w.heap.size, 0, rfl, (kbc_new w _).big, fun j hj => ?_⟩⟩
  rw [Nat.zero_add]
  refine (kbc_new w (.cells cs 9)).cell ?_
  rw [← Array.getElem?_toList, h]
  unfold scells
  rw [List.getElem?_map, List.getElem?_eq_getElem hj, part_get hj]; rfl
set_option maxHeartbeats 8000000 in
theorem alive_s (w : World) (ho : PowOk w) :
    Calls Tryd.prog 9 #[] w fun e w' => e = .returned (.bool true) ∧ Below w.heap.size w w' := by
  have HO := Lib.hid ho
  clear ho
  obtain ⟨c, hc⟩ : ∃ c, codeS secW 7 = c := ⟨_, rfl⟩
  have hcz : c.size = 6 := by rw [← hc]; exact codeS_size _ _
  obtain ⟨a, ha⟩ : ∃ a, recS secW 0 = a := ⟨_, rfl⟩
  have haz : a.size = 10 := by rw [← ha]; exact recS_size _ _
  obtain ⟨b, hb⟩ : ∃ b, recS secW 1 = b := ⟨_, rfl⟩
  have H1 := Lib.hid (av_code hc)
  have H2 := Lib.hid (av_ver hc)
  have H3 := Lib.hid (av_ver2 hc)
  have H4 := Lib.hid (av_at hc)
  have H5 := Lib.hid (av_rec ha hb)
  unfold secW at H1 H2 H3 H4 H5
  clear hc ha hb
  go_enter Tryd.func9, Tryd.ntmps9
  go_wp2_with fail
  refine (code_k ⟨#[115, 101, 99, 114, 101, 116]⟩ 7 c 0 _ (by decide) HO.out H1.out).mono ?_
  rintro e w1 ⟨rfl, hb⟩
  have HB := Lib.hid hb
  clear hb
  go_wp2_with fail
  refine (verify_k ⟨#[115, 101, 99, 114, 101, 116]⟩ 6 1 c 7 0 _ (by decide) (by omega) (by decide) (by decide) (by decide) (by decide) (HO.out.below HB.out) H2.out).mono ?_
  rintro e w2 ⟨rfl, hb⟩
  have HB := Lib.hid (HB.out.trans (hb.mono HB.out.size))
  clear hb
  go_wp2_with fail
  refine (verify_k ⟨#[115, 101, 99, 114, 101, 116]⟩ 7 0 c 0 11 _ (by decide) (by omega) (by decide) (by decide) (by decide) (by decide) (HO.out.below HB.out) H3.out).mono ?_
  rintro e w3 ⟨rfl, hb⟩
  have HB := Lib.hid (HB.out.trans (hb.mono HB.out.size))
  clear hb
  go_wp2_with fail
  refine (verifyAt_k ⟨#[115, 101, 99, 114, 101, 116]⟩ 6 210 0 c 7 0 _ (by decide) (by omega) (by decide) (by decide) (by decide) (by decide) (HO.out.below HB.out) H4.out).mono ?_
  rintro e w4 ⟨rfl, hb⟩
  have HB := Lib.hid (HB.out.trans (hb.mono HB.out.size))
  clear hb
  go_wp2_with fail
  have HS := Lib.hid (strs_lit w4 [⟨#[97]⟩, ⟨#[98]⟩, ⟨#[97]⟩] #[.string ⟨#[97]⟩, .string ⟨#[98]⟩, .string ⟨#[97]⟩] rfl (by decide))
  have HB := Lib.hid (HB.out.trans ((box_below w4 (.cells #[.string ⟨#[97]⟩, .string ⟨#[98]⟩, .string ⟨#[97]⟩] 9)).mono HB.out.size))
  refine (redeem_k _ 3 3 [⟨#[97]⟩, ⟨#[98]⟩, ⟨#[97]⟩] ⟨#[97]⟩ [⟨#[98]⟩, ⟨#[97]⟩] 0 _ HS.out (by decide) av_red).mono ?_
  rintro e w5 ⟨lo, lc, rfl, hl, hb⟩
  have HL := Lib.hid hl
  have HB := Lib.hid (HB.out.trans (hb.mono HB.out.size))
  clear hb hl
  go_wp2_with fail
  refine (redeem_k lo 2 lc [⟨#[98]⟩, ⟨#[97]⟩] ⟨#[99]⟩ [] 6 _ HL.out (by decide) av_red2).mono ?_
  rintro e w6 ⟨mo, mc, rfl, hl, hb⟩
  have HL := Lib.hid (HL.out.below hb)
  have HB := Lib.hid (HB.out.trans (hb.mono HB.out.size))
  clear hb hl
  go_wp2_with fail
  refine (code_k ⟨#[]⟩ 1 ⟨#[]⟩ 4 _ (by decide) (HO.out.below HB.out) av_code2).mono ?_
  rintro e w7 ⟨rfl, hb⟩
  have HL := Lib.hid (HL.out.below hb)
  have HB := Lib.hid (HB.out.trans (hb.mono HB.out.size))
  clear hb
  go_wp2_with fail
  refine (recovery_k ⟨#[115, 101, 99, 114, 101, 116]⟩ 2 [a, b] 0 _ (by decide) (by decide) (by decide) (HO.out.below HB.out) H5.out).mono ?_
  rintro e w8 ⟨ro, rc, rfl, hr, hb⟩
  have HR := Lib.hid hr
  have HL := Lib.hid (HL.out.below hb)
  have HB := Lib.hid (HB.out.trans (hb.mono HB.out.size))
  clear hb hr
  go_wp2_with fail
  have HS2 := Lib.hid (strs_lit w8 [⟨#[98]⟩, ⟨#[97]⟩] #[.string ⟨#[98]⟩, .string ⟨#[97]⟩] rfl (by decide))
  have hbx := box_below w8 (.cells #[.string ⟨#[98]⟩, .string ⟨#[97]⟩] 9)
  have HB := Lib.hid (HB.out.trans (hbx.mono HB.out.size))
  have HR := Lib.hid (HR.out.below hbx)
  have HL := Lib.hid (HL.out.below hbx)
  clear hbx
  refine (lists_k lo _ 2 2 lc 2 [⟨#[98]⟩, ⟨#[97]⟩] [⟨#[98]⟩, ⟨#[97]⟩] true _ HL.out HS2.out (decide_eq_true rfl)).mono ?_
  rintro e w9 ⟨rfl, hb⟩
  have HR := Lib.hid (HR.out.below hb)
  have HB := Lib.hid (HB.out.trans (hb.mono HB.out.size))
  clear hb
  obtain ⟨rb, roff, rfl, _, hcs⟩ := HR.out.at (by show 0 < 2; decide)
  have c0 : w9.cell? ⟨rb, roff, none⟩ = some (.string a) := hcs _ (Below.refl _ _) 0 (by show 0 < 2; decide)
  clear hcs
  go_wp2_with fail
  refine (counter_k 59 1 _ av_ctr).mono ?_
  rintro e w' ⟨rfl, rfl⟩
  go_wp2_with fail
  go_ret
  exact ⟨rfl, HB.out⟩
end Go.Proofs.YtmkcojgdhdmnnaaDoor
