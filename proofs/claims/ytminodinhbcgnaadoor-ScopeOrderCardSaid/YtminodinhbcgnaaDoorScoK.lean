/-
  Contracts of the law's covered and awake. Condition: as for the layer.
-/
import Derived.Test.YtminodinhbcgnaaDoorScoJ
set_option maxRecDepth 100000
set_option linter.unusedVariables false
set_option linter.unusedSimpArgs false
set_option linter.unnecessarySimpa false
namespace Go.Proofs.YtminodinhbcgnaaDoor
open Go.RowKit Go.PlainAid Go.Maps Go.ChangeShapes Go.WideShapes Go.ChangeAt

/-- strings that the call lays in a row -/
theorem lit_new (w : World) (l : List ByteArray) (hl : l.length ≤ 1000) : StrsAt (w.alloc (.cells (l.map Value.string).toArray 9)) (some ⟨w.heap.size, 0, none⟩) l.length l.length l := by
  refine ⟨rfl, Nat.le_refl _, by unfold maxLen; omega, fun _ => ⟨w.heap.size, 0, rfl, by rw [World.size_alloc]; omega, fun j hj => ?_⟩⟩
  rw [Nat.zero_add]
  refine (kbc_new w (.cells (l.map Value.string).toArray 9)).cell ?_
  rw [← Array.getElem?_toList, List.toList_toArray, List.getElem?_map, part_get hj, List.getElem?_eq_getElem hj]; rfl
theorem few_sms {l : List ByteArray} (h : fewB l = true) : SmS l ∧ l.length ≤ 20 ∧ ∀ j, j < l.length → (partAt l j).size ≤ 200 := by
  obtain ⟨h1, h2⟩ := few_true h
  exact ⟨⟨by omega, fun j hj => by have := h2 j hj; omega⟩, h1, h2⟩
theorem sms_lit (l : List ByteArray) (h : (decide (l.length ≤ 5000) && l.all fun s => decide (s.size ≤ 1000000)) = true) : SmS l := by
  rw [Bool.and_eq_true, decide_eq_true_eq, List.all_eq_true] at h
  exact ⟨h.1, fun j hj => of_decide_eq_true (h.2 _ (part_mem l j hj))⟩
set_option maxHeartbeats 4000000 in
theorem covered_k (ao : Option Addr) (n cap : Nat) (l : List ByteArray) (s : ByteArray) (r : Bool) (w : World) (h : StrsAt w ao n cap l) (hs : SmS l) (hz : s.size ≤ 1000000) (ho : MaxOk w) (hr : cov l s = r) :
    Calls Tryd.prog 29 #[.slice ao n cap, .string s] w fun e w' => e = .returned (.bool r) ∧ Below w.heap.size w w' := by
  have hb := box_below w (.cells #[.string s] 9)
  have HW := Lib.hid (within_k (some ⟨w.heap.size, 0, none⟩) ao 1 n 1 cap [s] l r _ (lit_new w [s] (by simp)) (StrsAt.below h hb) ⟨by simp, fun j hj => by
    have : j = 0 := by simp at hj; omega
    subst this; exact hz⟩ hs (ho.step hb) (by rw [wthn_one]; exact hr))
  have HB := Lib.hid hb
  clear hb h hs ho hr
  go_enter Tryd.func29, Tryd.ntmps29
  go_wp2_with fail
  refine HW.out.mono ?_
  rintro e w1 ⟨rfl, hb1⟩
  have HB1 := Lib.hid (HB.out.trans (hb1.mono HB.out.size))
  clear hb1
  go_wp2_with fail
  go_ret
  exact ⟨rfl, HB1.out⟩

/-! ### the chapter's examples -/
theorem aw_p1 : prE ⟨#[97, 32, 98, 46, 99]⟩ = 0 ∧ prL ⟨#[97, 32, 98, 46, 99]⟩ = [⟨#[97]⟩, ⟨#[98, 46, 99]⟩] := by decide +kernel
theorem aw_p2 : prE ⟨#[32, 97]⟩ = 5 ∧ prL ⟨#[32, 97]⟩ = [] := by decide +kernel
theorem aw_t : txS [⟨#[97]⟩, ⟨#[98, 46, 99]⟩] = ⟨#[97, 32, 98, 46, 99]⟩ ∧ chkS [⟨#[97]⟩, ⟨#[98, 46, 99]⟩] = 0 := by decide +kernel
theorem aw_c1 : chkS [⟨#[97, 46, 46, 98]⟩] = 5 := by decide +kernel
theorem aw_c2 : chkS (List.replicate 17 ⟨#[]⟩) = 3 := by decide +kernel
theorem aw_s : srt [⟨#[109, 97, 105, 108, 46, 114, 101, 97, 100]⟩, ⟨#[97]⟩, ⟨#[109, 97, 105, 108]⟩] = [⟨#[97]⟩, ⟨#[109, 97, 105, 108]⟩] := by decide +kernel
theorem aw_i1 : imp ⟨#[109, 97, 105, 108]⟩ ⟨#[109, 97, 105, 108, 46, 114, 101, 97, 100]⟩ = true := by decide +kernel
theorem aw_i2 : imp ⟨#[109, 97, 105, 108]⟩ ⟨#[109, 97, 105, 108, 98, 111, 120]⟩ = false := by decide +kernel
theorem aw_w : wthn [⟨#[109, 97, 105, 108]⟩, ⟨#[102, 105, 108, 101, 115, 46, 120]⟩] [⟨#[109, 97, 105, 108, 46, 114, 101, 97, 100]⟩, ⟨#[102, 105, 108, 101, 115]⟩] = false := by decide +kernel
theorem aw_m : cmn [⟨#[109, 97, 105, 108]⟩, ⟨#[102, 105, 108, 101, 115, 46, 120]⟩] [⟨#[109, 97, 105, 108, 46, 114, 101, 97, 100]⟩, ⟨#[102, 105, 108, 101, 115]⟩] = [⟨#[102, 105, 108, 101, 115, 46, 120]⟩, ⟨#[109, 97, 105, 108, 46, 114, 101, 97, 100]⟩] := by decide +kernel
theorem aw_n : mns [⟨#[109, 97, 105, 108]⟩, ⟨#[102, 105, 108, 101, 115, 46, 120]⟩] [⟨#[109, 97, 105, 108, 46, 114, 101, 97, 100]⟩, ⟨#[102, 105, 108, 101, 115]⟩] = [⟨#[109, 97, 105, 108]⟩] := by decide +kernel
theorem same_k (ao bo : Option Addr) (n m cap dap : Nat) (ps qs : List ByteArray) (r : Bool) (w : World) (h : StrsAt w ao n cap ps) (k : StrsAt w bo m dap qs) (hr : decide (ps = qs) = r) :
    Calls Tryd.prog 18 #[.slice ao n cap, .slice bo m dap] w fun e w' => e = .returned (.bool r) ∧ Below w.heap.size w w' := hr ▸ dsame_s ao bo n m cap dap ps qs w h k
theorem make17 (W : World) : Sem.run Tryd.prog (Instr.makeSlice 22 (.int .i64 17) (.int .i64 17)) W = Result.ok (.slice (some ⟨W.heap.size, 0, none⟩) 17 17) (W.alloc (.cells #[.string ⟨#[]⟩, .string ⟨#[]⟩, .string ⟨#[]⟩, .string ⟨#[]⟩, .string ⟨#[]⟩, .string ⟨#[]⟩, .string ⟨#[]⟩, .string ⟨#[]⟩, .string ⟨#[]⟩, .string ⟨#[]⟩, .string ⟨#[]⟩, .string ⟨#[]⟩, .string ⟨#[]⟩, .string ⟨#[]⟩, .string ⟨#[]⟩, .string ⟨#[]⟩, .string ⟨#[]⟩] 9)) := by kernel_rfl
theorem nil_at (W : World) : StrsAt W none 0 0 [] := ⟨rfl, Nat.le_refl _, by unfold maxLen; omega, fun h => absurd h (Nat.lt_irrefl _)⟩
set_option maxHeartbeats 16000000 in
theorem awake_k (w : World) (ho : MaxOk w) :
    Calls Tryd.prog 11 #[] w fun e w' => e = .returned (.bool true) ∧ Below w.heap.size w w' := by
  have HO := Lib.hid ho
  clear ho
  go_enter Tryd.func11, Tryd.ntmps11
  go_wp2_with fail
  refine (parse_k ⟨#[97, 32, 98, 46, 99]⟩ 0 [⟨#[97]⟩, ⟨#[98, 46, 99]⟩] w (by decide) HO.out aw_p1.1 aw_p1.2).mono ?_
  rintro e w1 ⟨ao1, n1, cap1, rfl, hat1, hb1⟩
  have HA1 := Lib.hid hat1
  have HB1 := Lib.hid hb1
  have hz1 := hb1.size
  clear hat1 hb1
  go_wp2_with fail
  refine (parse_k ⟨#[32, 97]⟩ 5 [] w1 (by decide) (HO.out.step HB1.out) aw_p2.1 aw_p2.2).mono ?_
  rintro e w2 ⟨ao2, n2, cap2, rfl, hat2, hb2⟩
  have HA2 := Lib.hid (StrsAt.below HA1.out hb2)
  have HB2 := Lib.hid (HB1.out.trans (hb2.mono hz1))
  have hz2 := Nat.le_trans hz1 hb2.size
  clear hat2 hb2
  go_wp2_with fail
  refine (text_k ao1 n1 cap1 [⟨#[97]⟩, ⟨#[98, 46, 99]⟩] ⟨#[97, 32, 98, 46, 99]⟩ 0 w2 HA2.out (sms_lit _ (by decide)) (HO.out.step HB2.out) aw_t.1 aw_t.2).mono ?_
  rintro e w3 ⟨rfl, hb3⟩
  have HB3 := Lib.hid (HB2.out.trans (hb3.mono hz2))
  have hz3 := Nat.le_trans hz2 hb3.size
  clear hb3
  have hq : ((⟨#[97, 32, 98, 46, 99]⟩ : ByteArray).toList != (⟨#[97, 32, 98, 46, 99]⟩ : ByteArray).toList) = false := bne_self_eq_false _
  have ba := box_below w3 (.cells #[.string ⟨#[109, 97, 105, 108]⟩, .string ⟨#[102, 105, 108, 101, 115, 46, 120]⟩] 9)
  have hA0 := lit_new w3 [⟨#[109, 97, 105, 108]⟩, ⟨#[102, 105, 108, 101, 115, 46, 120]⟩] (by decide)
  have bb := box_below (w3.alloc (.cells #[.string ⟨#[109, 97, 105, 108]⟩, .string ⟨#[102, 105, 108, 101, 115, 46, 120]⟩] 9)) (.cells #[.string ⟨#[109, 97, 105, 108, 46, 114, 101, 97, 100]⟩, .string ⟨#[102, 105, 108, 101, 115]⟩] 9)
  have hB0 := lit_new (w3.alloc (.cells #[.string ⟨#[109, 97, 105, 108]⟩, .string ⟨#[102, 105, 108, 101, 115, 46, 120]⟩] 9)) [⟨#[109, 97, 105, 108, 46, 114, 101, 97, 100]⟩, ⟨#[102, 105, 108, 101, 115]⟩] (by decide)
  have bc := box_below ((w3.alloc (.cells #[.string ⟨#[109, 97, 105, 108]⟩, .string ⟨#[102, 105, 108, 101, 115, 46, 120]⟩] 9)).alloc (.cells #[.string ⟨#[109, 97, 105, 108, 46, 114, 101, 97, 100]⟩, .string ⟨#[102, 105, 108, 101, 115]⟩] 9)) (.cells #[.string ⟨#[97, 46, 46, 98]⟩] 9)
  have hC0 := lit_new ((w3.alloc (.cells #[.string ⟨#[109, 97, 105, 108]⟩, .string ⟨#[102, 105, 108, 101, 115, 46, 120]⟩] 9)).alloc (.cells #[.string ⟨#[109, 97, 105, 108, 46, 114, 101, 97, 100]⟩, .string ⟨#[102, 105, 108, 101, 115]⟩] 9)) [⟨#[97, 46, 46, 98]⟩] (by decide)
  have bd := box_below (((w3.alloc (.cells #[.string ⟨#[109, 97, 105, 108]⟩, .string ⟨#[102, 105, 108, 101, 115, 46, 120]⟩] 9)).alloc (.cells #[.string ⟨#[109, 97, 105, 108, 46, 114, 101, 97, 100]⟩, .string ⟨#[102, 105, 108, 101, 115]⟩] 9)).alloc (.cells #[.string ⟨#[97, 46, 46, 98]⟩] 9)) (.cells (List.map Value.string (List.replicate 17 ⟨#[]⟩)).toArray 9)
  have hD0 := lit_new (((w3.alloc (.cells #[.string ⟨#[109, 97, 105, 108]⟩, .string ⟨#[102, 105, 108, 101, 115, 46, 120]⟩] 9)).alloc (.cells #[.string ⟨#[109, 97, 105, 108, 46, 114, 101, 97, 100]⟩, .string ⟨#[102, 105, 108, 101, 115]⟩] 9)).alloc (.cells #[.string ⟨#[97, 46, 46, 98]⟩] 9)) (List.replicate 17 ⟨#[]⟩) (by decide)
  have HBc := Lib.hid ((HB3.out.trans (ba.mono hz3)).trans ((bb.mono (Nat.le_trans hz3 ba.size)).trans (bc.mono (Nat.le_trans hz3 (Nat.le_trans ba.size bb.size)))))
  have HBd := Lib.hid (HBc.out.trans (bd.mono HBc.out.size))
  have HC := Lib.hid (check_k _ _ _ [⟨#[97, 46, 46, 98]⟩] 5 _ hC0 (sms_lit _ (by decide)) (HO.out.step HBc.out) aw_c1)
  have HD := Lib.hid (check_k _ 17 17 (List.replicate 17 ⟨#[]⟩) 3 _ hD0 (sms_lit _ (by decide)) (HO.out.step HBd.out) aw_c2)
  have HA5 := Lib.hid (StrsAt.below (StrsAt.below (StrsAt.below hA0 bb) bc) bd)
  have HB5 := Lib.hid (StrsAt.below (StrsAt.below hB0 bc) bd)
  simp only [World.size_alloc] at HC HD HA5 HB5
  clear ba bb bc bd hA0 hB0 hC0 hD0
  go_wp2_with fail
  refine HC.out.mono ?_
  rintro e w' ⟨rfl, rfl⟩
  clear HC
  go_wp2_with fail
  rw [make17]
  go_simp
  go_wp2_with fail
  refine HD.out.mono ?_
  rintro e w' ⟨rfl, rfl⟩
  clear HD HBc
  obtain ⟨W6, hW6⟩ : ∃ W, (((w3.alloc (.cells #[.string ⟨#[109, 97, 105, 108]⟩, .string ⟨#[102, 105, 108, 101, 115, 46, 120]⟩] 9)).alloc (.cells #[.string ⟨#[109, 97, 105, 108, 46, 114, 101, 97, 100]⟩, .string ⟨#[102, 105, 108, 101, 115]⟩] 9)).alloc (.cells #[.string ⟨#[97, 46, 46, 98]⟩] 9)).alloc (.cells (List.map Value.string (List.replicate 17 ⟨#[]⟩)).toArray 9) = W := ⟨_, rfl⟩
  have HA6 := HA5
  have HBb6 := HB5
  have HB6 := HBd
  rw [hW6] at HA6 HBb6 HB6 ⊢
  have hz6 := HB6.out.size
  clear hW6 HA5 HB5 HBd HA1 HA2
  have b7 := box_below W6 (.cells #[.string ⟨#[109, 97, 105, 108, 46, 114, 101, 97, 100]⟩, .string ⟨#[97]⟩, .string ⟨#[109, 97, 105, 108]⟩] 9)
  have HS := Lib.hid (sorted_k (some ⟨W6.heap.size, 0, none⟩) 3 3 [⟨#[109, 97, 105, 108, 46, 114, 101, 97, 100]⟩, ⟨#[97]⟩, ⟨#[109, 97, 105, 108]⟩] [⟨#[97]⟩, ⟨#[109, 97, 105, 108]⟩] _ (lit_new W6 [⟨#[109, 97, 105, 108, 46, 114, 101, 97, 100]⟩, ⟨#[97]⟩, ⟨#[109, 97, 105, 108]⟩] (by decide)) (sms_lit _ (by decide)) (HO.out.step (HB6.out.trans (b7.mono hz6))) aw_s)
  have HB7 := Lib.hid (HB6.out.trans (b7.mono hz6))
  have hz7 := Nat.le_trans hz6 b7.size
  have HA7 := Lib.hid (StrsAt.below HA6.out b7)
  have HBb7 := Lib.hid (StrsAt.below HBb6.out b7)
  clear b7
  go_wp2_with fail
  refine HS.out.mono ?_
  rintro e w8 ⟨v8, rfl, hown8, hb8⟩
  obtain ⟨ao8, cap8, rfl, hat8⟩ := strs_own hown8 rfl
  have HB8 := Lib.hid (HB7.out.trans (hb8.mono hz7))
  have hz8 := Nat.le_trans hz7 hb8.size
  have HA8 := Lib.hid (StrsAt.below HA7.out hb8)
  have HBb8 := Lib.hid (StrsAt.below HBb7.out hb8)
  have b9 := box_below w8 (.cells #[.string ⟨#[97]⟩, .string ⟨#[109, 97, 105, 108]⟩] 9)
  have HS := Lib.hid (same_k ao8 (some ⟨w8.heap.size, 0, none⟩) 2 2 cap8 2 [⟨#[97]⟩, ⟨#[109, 97, 105, 108]⟩] [⟨#[97]⟩, ⟨#[109, 97, 105, 108]⟩] true _ (StrsAt.below hat8 b9) (lit_new w8 [⟨#[97]⟩, ⟨#[109, 97, 105, 108]⟩] (by decide)) (decide_eq_true rfl))
  have HB9 := Lib.hid (HB8.out.trans (b9.mono hz8))
  have hz9 := Nat.le_trans hz8 b9.size
  have HA9 := Lib.hid (StrsAt.below HA8.out b9)
  have HBb9 := Lib.hid (StrsAt.below HBb8.out b9)
  clear hown8 hb8 hat8 b9
  go_wp2_with fail
  refine HS.out.mono ?_
  rintro e w10 ⟨rfl, hb10⟩
  have HB10 := Lib.hid (HB9.out.trans (hb10.mono hz9))
  have hz10 := Nat.le_trans hz9 hb10.size
  have HA10 := Lib.hid (StrsAt.below HA9.out hb10)
  have HBb10 := Lib.hid (StrsAt.below HBb9.out hb10)
  clear hb10
  have HI1 := Lib.hid (implies_k ⟨#[109, 97, 105, 108]⟩ ⟨#[109, 97, 105, 108, 46, 114, 101, 97, 100]⟩ true w10 (by decide) (by decide) (HO.out.step HB10.out) aw_i1)
  have HI2 := Lib.hid (implies_k ⟨#[109, 97, 105, 108]⟩ ⟨#[109, 97, 105, 108, 98, 111, 120]⟩ false w10 (by decide) (by decide) (HO.out.step HB10.out) aw_i2)
  go_wp2_with fail
  refine HI1.out.mono ?_
  rintro e w' ⟨rfl, rfl⟩
  go_wp2_with fail
  refine HI2.out.mono ?_
  rintro e w' ⟨rfl, rfl⟩
  go_wp2_with fail
  refine (within_k none none 0 0 0 0 [] [] true w10 (nil_at _) (nil_at _) (sms_lit _ (by decide)) (sms_lit _ (by decide)) (HO.out.step HB10.out) rfl).mono ?_
  rintro e w11 ⟨rfl, hb11⟩
  have HB11 := Lib.hid (HB10.out.trans (hb11.mono hz10))
  have hz11 := Nat.le_trans hz10 hb11.size
  have HA11 := Lib.hid (StrsAt.below HA10.out hb11)
  have HBb11 := Lib.hid (StrsAt.below HBb10.out hb11)
  clear hb11
  go_wp2_with fail
  refine (within_k _ _ 2 2 2 2 [⟨#[109, 97, 105, 108]⟩, ⟨#[102, 105, 108, 101, 115, 46, 120]⟩] [⟨#[109, 97, 105, 108, 46, 114, 101, 97, 100]⟩, ⟨#[102, 105, 108, 101, 115]⟩] false w11 HA11.out HBb11.out (sms_lit _ (by decide)) (sms_lit _ (by decide)) (HO.out.step HB11.out) aw_w).mono ?_
  rintro e w12 ⟨rfl, hb12⟩
  have HB12 := Lib.hid (HB11.out.trans (hb12.mono hz11))
  have hz12 := Nat.le_trans hz11 hb12.size
  have HA12 := Lib.hid (StrsAt.below HA11.out hb12)
  have HBb12 := Lib.hid (StrsAt.below HBb11.out hb12)
  clear hb12
  go_wp2_with fail
  refine (common_k _ _ 2 2 2 2 [⟨#[109, 97, 105, 108]⟩, ⟨#[102, 105, 108, 101, 115, 46, 120]⟩] [⟨#[109, 97, 105, 108, 46, 114, 101, 97, 100]⟩, ⟨#[102, 105, 108, 101, 115]⟩] [⟨#[102, 105, 108, 101, 115, 46, 120]⟩, ⟨#[109, 97, 105, 108, 46, 114, 101, 97, 100]⟩] w12 HA12.out HBb12.out (sms_lit _ (by decide)) (sms_lit _ (by decide)) (by decide) (HO.out.step HB12.out) aw_m).mono ?_
  rintro e w13 ⟨v13, rfl, hown13, hb13⟩
  obtain ⟨ao13, cap13, rfl, hat13⟩ := strs_own hown13 rfl
  have HB13 := Lib.hid (HB12.out.trans (hb13.mono hz12))
  have hz13 := Nat.le_trans hz12 hb13.size
  have HA13 := Lib.hid (StrsAt.below HA12.out hb13)
  have HBb13 := Lib.hid (StrsAt.below HBb12.out hb13)
  have b14 := box_below w13 (.cells #[.string ⟨#[102, 105, 108, 101, 115, 46, 120]⟩, .string ⟨#[109, 97, 105, 108, 46, 114, 101, 97, 100]⟩] 9)
  have HS := Lib.hid (same_k ao13 (some ⟨w13.heap.size, 0, none⟩) 2 2 cap13 2 [⟨#[102, 105, 108, 101, 115, 46, 120]⟩, ⟨#[109, 97, 105, 108, 46, 114, 101, 97, 100]⟩] [⟨#[102, 105, 108, 101, 115, 46, 120]⟩, ⟨#[109, 97, 105, 108, 46, 114, 101, 97, 100]⟩] true _ (StrsAt.below hat13 b14) (lit_new w13 [⟨#[102, 105, 108, 101, 115, 46, 120]⟩, ⟨#[109, 97, 105, 108, 46, 114, 101, 97, 100]⟩] (by decide)) (decide_eq_true rfl))
  have HB14 := Lib.hid (HB13.out.trans (b14.mono hz13))
  have hz14 := Nat.le_trans hz13 b14.size
  have HA14 := Lib.hid (StrsAt.below HA13.out b14)
  have HBb14 := Lib.hid (StrsAt.below HBb13.out b14)
  clear hown13 hb13 hat13 b14
  go_wp2_with fail
  refine HS.out.mono ?_
  rintro e w15 ⟨rfl, hb15⟩
  have HB15 := Lib.hid (HB14.out.trans (hb15.mono hz14))
  have hz15 := Nat.le_trans hz14 hb15.size
  have HA15 := Lib.hid (StrsAt.below HA14.out hb15)
  have HBb15 := Lib.hid (StrsAt.below HBb14.out hb15)
  clear hb15
  go_wp2_with fail
  refine (minus_k _ _ 2 2 2 2 [⟨#[109, 97, 105, 108]⟩, ⟨#[102, 105, 108, 101, 115, 46, 120]⟩] [⟨#[109, 97, 105, 108, 46, 114, 101, 97, 100]⟩, ⟨#[102, 105, 108, 101, 115]⟩] [⟨#[109, 97, 105, 108]⟩] w15 HA15.out HBb15.out (sms_lit _ (by decide)) (sms_lit _ (by decide)) (HO.out.step HB15.out) aw_n).mono ?_
  rintro e w16 ⟨v16, rfl, hown16, hb16⟩
  obtain ⟨ao16, cap16, rfl, hat16⟩ := strs_own hown16 rfl
  have HB16 := Lib.hid (HB15.out.trans (hb16.mono hz15))
  have hz16 := Nat.le_trans hz15 hb16.size
  have HA16 := Lib.hid (StrsAt.below HA15.out hb16)
  have HBb16 := Lib.hid (StrsAt.below HBb15.out hb16)
  have b17 := box_below w16 (.cells #[.string ⟨#[109, 97, 105, 108]⟩] 9)
  have HS := Lib.hid (same_k ao16 (some ⟨w16.heap.size, 0, none⟩) 1 1 cap16 1 [⟨#[109, 97, 105, 108]⟩] [⟨#[109, 97, 105, 108]⟩] true _ (StrsAt.below hat16 b17) (lit_new w16 [⟨#[109, 97, 105, 108]⟩] (by decide)) (decide_eq_true rfl))
  have HB17 := Lib.hid (HB16.out.trans (b17.mono hz16))
  have hz17 := Nat.le_trans hz16 b17.size
  have HA17 := Lib.hid (StrsAt.below HA16.out b17)
  have HBb17 := Lib.hid (StrsAt.below HBb16.out b17)
  clear hown16 hb16 hat16 b17
  go_wp2_with fail
  refine HS.out.mono ?_
  rintro e w18 ⟨rfl, hb18⟩
  have HB18 := Lib.hid (HB17.out.trans (hb18.mono hz17))
  have hz18 := Nat.le_trans hz17 hb18.size
  have HA18 := Lib.hid (StrsAt.below HA17.out hb18)
  have HBb18 := Lib.hid (StrsAt.below HBb17.out hb18)
  clear hb18
  go_wp2_with fail
  go_ret
  exact ⟨rfl, HB18.out⟩

end Go.Proofs.YtminodinhbcgnaaDoor
