/-
  Proved: identitylaw29.ScopeCovered returns true for all arguments (the tied card). No condition beyond the row's own.
-/
import Derived.Test.YtminodinhbcgnaaDoorScoLaws
import Derived.Deep.RegionHeld3
set_option linter.unusedVariables false
set_option linter.unusedSimpArgs false
set_option linter.unnecessarySimpa false
namespace Go.Proofs.YtminodinhbcgnaaDoor
open Go.ChangeShapes Go.WideShapes Go.ChangeAt Go.RowKit Go.PlainAid
open Go.ChangeMaps (open_string shut_string)

set_option maxRecDepth 100000 in
set_option maxHeartbeats 16000000 in
theorem lxcovered_s (a : Option Addr) (an ac : Nat) (al : List ByteArray) (b : Option Addr) (bn bc : Nat) (bl : List ByteArray) (s : ByteArray) (w : World) (hs0 : StrsAt w a an ac al) (hs1 : StrsAt w b bn bc bl) (ho : MaxOk w) :
    Calls Tryd.prog 8 #[.slice a an ac, .slice b bn bc, .string s] w fun e w' => e = .returned (.bool true) ∧ Below w.heap.size w w' := by
  have HO := Lib.hid ho
  have HB := Lib.hid (Below.refl w.heap.size w)
  clear ho
  have Ha := Lib.hid hs0
  have Hb := Lib.hid hs1
  obtain ⟨fa, hfa⟩ : ∃ x, fewB al = x := ⟨_, rfl⟩
  have HFa := Lib.hid (few_k a an ac al fa w Ha.out hfa)
  obtain ⟨fb, hfb⟩ : ∃ x, fewB bl = x := ⟨_, rfl⟩
  have HFb := Lib.hid (few_k b bn bc bl fb w Hb.out hfb)
  clear hs0
  clear hs1
  have HCs := Lib.hid (cov_srt al s)
  have HAsc := Lib.hid (srt_asc al)
  have HSs := Lib.hid (srt_srt al)
  have hLl := srt_len al
  have HSmL := Lib.hid (fun h => sms_srt (l := al) h)
  obtain ⟨L, hL⟩ : ∃ x, srt al = x := ⟨_, rfl⟩
  rw [hL] at HCs HAsc HSs hLl HSmL
  have HVL := Lib.hid hL
  have HCc := Lib.hid (cmn_cov al bl s)
  have HCm := Lib.hid (cmn_comm bl al)
  have HWl := Lib.hid (cmn_left al bl)
  have HWr := Lib.hid (cmn_right al bl)
  have HSmC := Lib.hid (fun h g => sms_cmn (a := al) (b := bl) h g)
  obtain ⟨C, hC⟩ : ∃ x, cmn al bl = x := ⟨_, rfl⟩
  rw [hC] at HCc HCm HWl HWr HSmC
  have HVC := Lib.hid hC
  clear hL hC
  obtain ⟨ya, hya⟩ : ∃ x, cov al s = x := ⟨_, rfl⟩
  obtain ⟨yb, hyb⟩ : ∃ x, cov bl s = x := ⟨_, rfl⟩
  rw [hya] at HCs HCc
  rw [hyb] at HCc
  have HYa := Lib.hid hya
  have HYb := Lib.hid hyb
  have q1 := beq_b ya
  have q2 := beq_b (ya && yb)
  clear hya hyb
  cases fa with
  | false =>
    clear hfa
    go_enter Tryd.func8, Tryd.ntmps8
    go_wp2_with fail
    refine (HFa.out).mono ?_
    rintro e w' ⟨rfl, rfl⟩
    go_wp2_with fail
    refine (awake_k _ (HO.out.step HB.out)).mono ?_
    rintro e wz ⟨rfl, hb⟩
    have HB := Lib.hid (HB.out.trans (hb.mono HB.out.size))
    clear hb
    go_wp2_with fail
    go_ret
    exact ⟨rfl, HB.out⟩
  | true =>
    have hSa := few_sms hfa
    have HSa := Lib.hid hSa
    have hla := hSa.2.1
    clear hfa hSa
    cases fb with
    | false =>
      clear hfb
      go_enter Tryd.func8, Tryd.ntmps8
      go_wp2_with fail
      refine (HFa.out).mono ?_
      rintro e w' ⟨rfl, rfl⟩
      go_wp2_with fail
      refine (HFb.out).mono ?_
      rintro e w' ⟨rfl, rfl⟩
      go_wp2_with fail
      refine (awake_k _ (HO.out.step HB.out)).mono ?_
      rintro e wz ⟨rfl, hb⟩
      have HB := Lib.hid (HB.out.trans (hb.mono HB.out.size))
      clear hb
      go_wp2_with fail
      go_ret
      exact ⟨rfl, HB.out⟩
    | true =>
      have hSb := few_sms hfb
      have HSb := Lib.hid hSb
      have hlb := hSb.2.1
      clear hfb hSb
      by_cases zs : s.size ≤ 200
      · have ys : ¬ (200 : Int) < (s.size : Int) := by omega
        go_enter Tryd.func8, Tryd.ntmps8
        go_wp2_with fail
        refine (HFa.out).mono ?_
        rintro e w' ⟨rfl, rfl⟩
        go_wp2_with fail
        refine (HFb.out).mono ?_
        rintro e w' ⟨rfl, rfl⟩
        go_wp2_with fail
        have HSml := Lib.hid (HSmL.out HSa.out.1)
        have HSmc := Lib.hid (HSmC.out HSa.out HSb.out)
        have hz : s.size ≤ 1000000 := by omega
        refine (sorted_k a an ac al L _ Ha.out HSa.out.1 (HO.out.step HB.out) HVL.out).mono ?_
        rintro e wc1 ⟨pv, rfl, hown, hb⟩
        obtain ⟨pa, pc, rfl, hat⟩ := strs_own hown rfl
        have Ha := Lib.hid (StrsAt.below Ha.out hb)
        have Hb := Lib.hid (StrsAt.below Hb.out hb)
        have HB := Lib.hid (HB.out.trans (hb.mono HB.out.size))
        have Hp := Lib.hid hat
        clear hb hown hat
        go_wp2_with fail
        refine (common_k a b an bn ac bc al bl C _ Ha.out Hb.out HSa.out.1 HSb.out.1 (by omega) (HO.out.step HB.out) HVC.out).mono ?_
        rintro e wc2 ⟨qv, rfl, hown, hb⟩
        obtain ⟨qa, qc, rfl, hat⟩ := strs_own hown rfl
        have Ha := Lib.hid (StrsAt.below Ha.out hb)
        have Hb := Lib.hid (StrsAt.below Hb.out hb)
        have Hp := Lib.hid (StrsAt.below Hp.out hb)
        have HB := Lib.hid (HB.out.trans (hb.mono HB.out.size))
        have Hq := Lib.hid hat
        clear hb hown hat
        go_wp2_with fail
        go_loopw [9] (fun i wr => ∃ j : Nat, j ≤ L.length ∧ i = .int .i64 ((j + 1 : Nat) : Int) ∧ Hid (Below wc2.heap.size wc2 wr)) (fun i _ => L.length + 1 - (intOf i).toNat)
        case atStart => exact ⟨0, Nat.zero_le _, rfl, Lib.hid (Below.refl _ _)⟩
        case round =>
          obtain ⟨j, hj, rfl, HX⟩ := hrel
          by_cases hlt : j + 1 < L.length
          · obtain ⟨nb, off, rfl, hs⟩ := Hp.out.2.2.2 (by omega)
            have hc1 := (hs.below HX.out hs.1).2 j (by omega)
            have hc2 := (hs.below HX.out hs.1).2 (j + 1) hlt
            have hcmp : cmpS (partAt L j) (partAt L (j + 1)) < 0 := by
              have := List.pairwise_iff_getElem.1 HAsc.out j (j + 1) (by omega) hlt (by omega)
              rw [part_get (by omega), part_get hlt]; exact this
            have G := str_geq 9 (partAt L j) (partAt L (j + 1))
            rw [str_less, decide_eq_true hcmp] at G
            obtain ⟨p, hpe⟩ : ∃ p, p = partAt L j := ⟨_, rfl⟩
            obtain ⟨q, hqe⟩ : ∃ p, p = partAt L (j + 1) := ⟨_, rfl⟩
            rw [← hpe] at hc1 G
            rw [← hqe] at hc2 G
            clear hs hcmp hpe hqe
            have d1 : ((j + 1 : Nat) : Int) < (L.length : Int) := by omega
            have d2 : (j : Int) + 1 < (L.length : Int) := by omega
            have d3 : (j : Int) < (L.length : Int) := by omega
            have d4 : (0 : Int) ≤ (j : Int) + 1 := by omega
            have d5 : (0 : Int) ≤ (j : Int) := by omega
            have w1 : IntKind.i64.wrap (((j + 1 : Nat) : Int) - 1) = (j : Int) := by rw [IntWalk.i64_in _ ⟨by omega, by omega⟩]; omega
            have w2 : IntKind.i64.wrap ((j : Int) + 1 - 1) = (j : Int) := by rw [IntWalk.i64_in _ ⟨by omega, by omega⟩]; omega
            have w3 : IntKind.i64.wrap (j : Int) = (j : Int) := by rw [IntWalk.i64_in _ ⟨by omega, by omega⟩]
            have hc3 : wr.cell? ⟨nb, off + j + 1, none⟩ = some (.string q) := hc2
            go_wp2_with fail
            refine wp_region_held_drew (S := fun W => W.cell? ⟨nb, off + j, none⟩ = some (.string p) ∧ W.cell? ⟨nb, off + (j + 1), none⟩ = some (.string q)) (by kernel_rfl) (⟨hc1, hc2⟩) (fun hS => ?_)
            refine wpAnyH_take (i := 0) (oi := { dst := some 35, op := _, type := _, pos := _, after := _, guard := _ }) (v := ?_) rfl (by kernel_rfl) (by kernel_rfl) (by kernel_rfl) (fun _ _ _ h => h) (Or.inl ⟨by rfl, ?_⟩) (by assumption) ?_
            rotate_left
            · intro w hSw
              try dsimp only at hSw
              go_simp
              try with_reducible rfl
            try simp only [Act.put, List.setIfInBounds_toArray, List.set_cons_zero, List.set_cons_succ]
            refine wpAnyH_take (i := 1) (oi := { dst := some 36, op := _, type := _, pos := _, after := _, guard := _ }) (v := ?_) rfl (by kernel_rfl) (by kernel_rfl) (by kernel_rfl) (fun _ _ _ h => h) (Or.inl ⟨by rfl, ?_⟩) (by assumption) ?_
            rotate_left
            · intro w hSw
              try dsimp only at hSw
              go_simp
              try with_reducible rfl
            try simp only [Act.put, List.setIfInBounds_toArray, List.set_cons_zero, List.set_cons_succ]
            refine wpAnyH_take (i := 2) (oi := { dst := some 37, op := _, type := _, pos := _, after := _, guard := _ }) (v := ?_) rfl (by kernel_rfl) (by kernel_rfl) (by kernel_rfl) (fun _ _ _ h => h) (Or.inl ⟨by rfl, ?_⟩) (by assumption) ?_
            rotate_left
            · intro w hSw
              try dsimp only at hSw
              go_simp
              try with_reducible rfl
            try simp only [Act.put, List.setIfInBounds_toArray, List.set_cons_zero, List.set_cons_succ]
            refine wpAnyH_take (i := 3) (oi := { dst := some 38, op := _, type := _, pos := _, after := _, guard := _ }) (v := ?_) rfl (by kernel_rfl) (by kernel_rfl) (by kernel_rfl) (fun _ _ _ h => h) (Or.inl ⟨by rfl, ?_⟩) (by assumption) ?_
            rotate_left
            · intro w hSw
              try dsimp only at hSw
              go_simp
              try with_reducible rfl
            try simp only [Act.put, List.setIfInBounds_toArray, List.set_cons_zero, List.set_cons_succ]
            refine wpAnyH_take (i := 4) (oi := { dst := some 39, op := _, type := _, pos := _, after := _, guard := _ }) (v := ?_) rfl (by kernel_rfl) (by kernel_rfl) (by kernel_rfl) (fun _ _ _ h => h) (Or.inl ⟨by rfl, ?_⟩) (by assumption) ?_
            rotate_left
            · intro w hSw
              try dsimp only at hSw
              go_simp
              try with_reducible rfl
            try simp only [Act.put, List.setIfInBounds_toArray, List.set_cons_zero, List.set_cons_succ]
            refine wpAnyH_take (i := 5) (oi := { dst := some 40, op := _, type := _, pos := _, after := _, guard := _ }) (v := ?_) rfl (by kernel_rfl) (by kernel_rfl) (by kernel_rfl) (fun _ _ _ h => h) (Or.inl ⟨by rfl, ?_⟩) (by assumption) ?_
            rotate_left
            · intro w hSw
              try dsimp only at hSw
              go_simp
              try with_reducible rfl
            try simp only [Act.put, List.setIfInBounds_toArray, List.set_cons_zero, List.set_cons_succ]
            refine wpAnyH_take (i := 6) (oi := { dst := some 41, op := _, type := _, pos := _, after := _, guard := _ }) (v := ?_) rfl (by kernel_rfl) (by kernel_rfl) (by kernel_rfl) (fun _ _ _ h => h) (Or.inl ⟨by rfl, ?_⟩) (by assumption) ?_
            rotate_left
            · intro w hSw
              try dsimp only at hSw
              go_simp
              try with_reducible rfl
            try simp only [Act.put, List.setIfInBounds_toArray, List.set_cons_zero, List.set_cons_succ]
            refine wpAnyH_take (i := 7) (oi := { dst := some 42, op := _, type := _, pos := _, after := _, guard := _ }) (v := ?_) rfl (by kernel_rfl) (by kernel_rfl) (by kernel_rfl) (fun _ _ _ h => h) (Or.inl ⟨by rfl, ?_⟩) (by assumption) ?_
            rotate_left
            · intro w hSw
              try dsimp only at hSw
              go_simp
              try with_reducible rfl
            try simp only [Act.put, List.setIfInBounds_toArray, List.set_cons_zero, List.set_cons_succ]
            refine wpAnyH_take (i := 8) (oi := { dst := some 43, op := _, type := _, pos := _, after := _, guard := _ }) (v := ?_) rfl (by kernel_rfl) (by kernel_rfl) (by kernel_rfl) (fun _ _ _ h => h) (Or.inl ⟨by rfl, ?_⟩) (by assumption) ?_
            rotate_left
            · intro w hSw
              try dsimp only at hSw
              go_simp
              try with_reducible rfl
            try simp only [Act.put, List.setIfInBounds_toArray, List.set_cons_zero, List.set_cons_succ]
            refine wpAnyH_take (i := 9) (oi := { dst := some 44, op := _, type := _, pos := _, after := _, guard := _ }) (v := ?_) rfl (by kernel_rfl) (by kernel_rfl) (by kernel_rfl) (fun _ _ _ h => h) (Or.inl ⟨by rfl, ?_⟩) (by assumption) ?_
            rotate_left
            · intro w hSw
              try dsimp only at hSw
              go_simp
              try with_reducible rfl
            try simp only [Act.put, List.setIfInBounds_toArray, List.set_cons_zero, List.set_cons_succ]
            refine wpAnyH_done (by kernel_rfl) ?_ _
            go_wp2_with fail
            go_roundw
            case rel => exact ⟨j + 1, by omega, by go_num, Lib.hid HX.out.drew⟩
            case measure => simp [intOf]; omega
          · have hb := HX.out
            have Ha := Lib.hid (StrsAt.below Ha.out hb)
            have Hb := Lib.hid (StrsAt.below Hb.out hb)
            have Hp := Lib.hid (StrsAt.below Hp.out hb)
            have Hq := Lib.hid (StrsAt.below Hq.out hb)
            have HB := Lib.hid (HB.out.trans (hb.mono HB.out.size))
            clear hb
            have d1 : ¬ ((j + 1 : Nat) : Int) < (L.length : Int) := by omega
            have d2 : ¬ (j : Int) + 1 < (L.length : Int) := by omega
            go_wp2_with fail
            refine (covered_k pa _ pc L s ya _ Hp.out HSml.out hz (HO.out.step HB.out) HCs.out).mono ?_
            rintro e wc4 ⟨rfl, hb⟩
            have Ha := Lib.hid (StrsAt.below Ha.out hb)
            have Hb := Lib.hid (StrsAt.below Hb.out hb)
            have Hp := Lib.hid (StrsAt.below Hp.out hb)
            have Hq := Lib.hid (StrsAt.below Hq.out hb)
            have HB := Lib.hid (HB.out.trans (hb.mono HB.out.size))
            clear hb
            go_wp2_with fail
            refine (covered_k a an ac al s ya _ Ha.out HSa.out.1 hz (HO.out.step HB.out) HYa.out).mono ?_
            rintro e wc5 ⟨rfl, hb⟩
            have Ha := Lib.hid (StrsAt.below Ha.out hb)
            have Hb := Lib.hid (StrsAt.below Hb.out hb)
            have Hp := Lib.hid (StrsAt.below Hp.out hb)
            have Hq := Lib.hid (StrsAt.below Hq.out hb)
            have HB := Lib.hid (HB.out.trans (hb.mono HB.out.size))
            clear hb
            go_wp2_with fail
            refine (sorted_k pa _ pc L L _ Hp.out HSml.out (HO.out.step HB.out) HSs.out).mono ?_
            rintro e wc6 ⟨tv, rfl, hown, hb⟩
            obtain ⟨ta, tc, rfl, hat⟩ := strs_own hown rfl
            have Ha := Lib.hid (StrsAt.below Ha.out hb)
            have Hb := Lib.hid (StrsAt.below Hb.out hb)
            have Hp := Lib.hid (StrsAt.below Hp.out hb)
            have Hq := Lib.hid (StrsAt.below Hq.out hb)
            have HB := Lib.hid (HB.out.trans (hb.mono HB.out.size))
            have Ht := Lib.hid hat
            clear hb hown hat
            go_wp2_with fail
            refine (same_k ta pa _ _ tc pc L L true _ Ht.out Hp.out (decide_eq_true rfl)).mono ?_
            rintro e wc7 ⟨rfl, hb⟩
            have Ha := Lib.hid (StrsAt.below Ha.out hb)
            have Hb := Lib.hid (StrsAt.below Hb.out hb)
            have Hp := Lib.hid (StrsAt.below Hp.out hb)
            have Hq := Lib.hid (StrsAt.below Hq.out hb)
            have Ht := Lib.hid (StrsAt.below Ht.out hb)
            have HB := Lib.hid (HB.out.trans (hb.mono HB.out.size))
            clear hb
            go_wp2_with fail
            refine (covered_k qa _ qc C s (ya && yb) _ Hq.out HSmc.out.1 hz (HO.out.step HB.out) HCc.out).mono ?_
            rintro e wc8 ⟨rfl, hb⟩
            have Ha := Lib.hid (StrsAt.below Ha.out hb)
            have Hb := Lib.hid (StrsAt.below Hb.out hb)
            have Hp := Lib.hid (StrsAt.below Hp.out hb)
            have Hq := Lib.hid (StrsAt.below Hq.out hb)
            have Ht := Lib.hid (StrsAt.below Ht.out hb)
            have HB := Lib.hid (HB.out.trans (hb.mono HB.out.size))
            clear hb
            go_wp2_with fail
            refine (covered_k a an ac al s ya _ Ha.out HSa.out.1 hz (HO.out.step HB.out) HYa.out).mono ?_
            rintro e wc9 ⟨rfl, hb⟩
            have Ha := Lib.hid (StrsAt.below Ha.out hb)
            have Hb := Lib.hid (StrsAt.below Hb.out hb)
            have Hp := Lib.hid (StrsAt.below Hp.out hb)
            have Hq := Lib.hid (StrsAt.below Hq.out hb)
            have Ht := Lib.hid (StrsAt.below Ht.out hb)
            have HB := Lib.hid (HB.out.trans (hb.mono HB.out.size))
            clear hb
            cases ya with
            | true =>
              have q3 := beq_b yb
              have q4 : (true && yb) = yb := Bool.true_and yb
              go_wp2_with fail
              refine (covered_k b bn bc bl s yb _ Hb.out HSb.out.1 hz (HO.out.step HB.out) HYb.out).mono ?_
              rintro e wc10 ⟨rfl, hb⟩
              have Ha := Lib.hid (StrsAt.below Ha.out hb)
              have Hb := Lib.hid (StrsAt.below Hb.out hb)
              have Hp := Lib.hid (StrsAt.below Hp.out hb)
              have Hq := Lib.hid (StrsAt.below Hq.out hb)
              have Ht := Lib.hid (StrsAt.below Ht.out hb)
              have HB := Lib.hid (HB.out.trans (hb.mono HB.out.size))
              clear hb
              go_wp2_with fail
              refine (common_k b a bn an bc ac bl al C _ Hb.out Ha.out HSb.out.1 HSa.out.1 (by omega) (HO.out.step HB.out) HCm.out).mono ?_
              rintro e wc11 ⟨uv, rfl, hown, hb⟩
              obtain ⟨ua, uc, rfl, hat⟩ := strs_own hown rfl
              have Ha := Lib.hid (StrsAt.below Ha.out hb)
              have Hb := Lib.hid (StrsAt.below Hb.out hb)
              have Hp := Lib.hid (StrsAt.below Hp.out hb)
              have Hq := Lib.hid (StrsAt.below Hq.out hb)
              have Ht := Lib.hid (StrsAt.below Ht.out hb)
              have HB := Lib.hid (HB.out.trans (hb.mono HB.out.size))
              have Hu := Lib.hid hat
              clear hb hown hat
              go_wp2_with fail
              refine (same_k qa ua _ _ qc uc C C true _ Hq.out Hu.out (decide_eq_true rfl)).mono ?_
              rintro e wc12 ⟨rfl, hb⟩
              have Ha := Lib.hid (StrsAt.below Ha.out hb)
              have Hb := Lib.hid (StrsAt.below Hb.out hb)
              have Hp := Lib.hid (StrsAt.below Hp.out hb)
              have Hq := Lib.hid (StrsAt.below Hq.out hb)
              have Ht := Lib.hid (StrsAt.below Ht.out hb)
              have Hu := Lib.hid (StrsAt.below Hu.out hb)
              have HB := Lib.hid (HB.out.trans (hb.mono HB.out.size))
              clear hb
              go_wp2_with fail
              refine (within_k qa a _ an qc ac C al true _ Hq.out Ha.out HSmc.out.1 HSa.out.1 (HO.out.step HB.out) HWl.out).mono ?_
              rintro e wc13 ⟨rfl, hb⟩
              have Ha := Lib.hid (StrsAt.below Ha.out hb)
              have Hb := Lib.hid (StrsAt.below Hb.out hb)
              have Hp := Lib.hid (StrsAt.below Hp.out hb)
              have Hq := Lib.hid (StrsAt.below Hq.out hb)
              have Ht := Lib.hid (StrsAt.below Ht.out hb)
              have Hu := Lib.hid (StrsAt.below Hu.out hb)
              have HB := Lib.hid (HB.out.trans (hb.mono HB.out.size))
              clear hb
              go_wp2_with fail
              refine (within_k qa b _ bn qc bc C bl true _ Hq.out Hb.out HSmc.out.1 HSb.out.1 (HO.out.step HB.out) HWr.out).mono ?_
              rintro e wc14 ⟨rfl, hb⟩
              have Ha := Lib.hid (StrsAt.below Ha.out hb)
              have Hb := Lib.hid (StrsAt.below Hb.out hb)
              have Hp := Lib.hid (StrsAt.below Hp.out hb)
              have Hq := Lib.hid (StrsAt.below Hq.out hb)
              have Ht := Lib.hid (StrsAt.below Ht.out hb)
              have Hu := Lib.hid (StrsAt.below Hu.out hb)
              have HB := Lib.hid (HB.out.trans (hb.mono HB.out.size))
              clear hb
              go_wp2_with fail
              refine (awake_k _ (HO.out.step HB.out)).mono ?_
              rintro e wz ⟨rfl, hb⟩
              have HB := Lib.hid (HB.out.trans (hb.mono HB.out.size))
              clear hb
              go_wp2_with fail
              go_ret
              exact ⟨rfl, HB.out⟩
            | false =>
              have q4 : (false && yb) = false := rfl
              go_wp2_with fail
              refine (common_k b a bn an bc ac bl al C _ Hb.out Ha.out HSb.out.1 HSa.out.1 (by omega) (HO.out.step HB.out) HCm.out).mono ?_
              rintro e wc16 ⟨uv, rfl, hown, hb⟩
              obtain ⟨ua, uc, rfl, hat⟩ := strs_own hown rfl
              have Ha := Lib.hid (StrsAt.below Ha.out hb)
              have Hb := Lib.hid (StrsAt.below Hb.out hb)
              have Hp := Lib.hid (StrsAt.below Hp.out hb)
              have Hq := Lib.hid (StrsAt.below Hq.out hb)
              have Ht := Lib.hid (StrsAt.below Ht.out hb)
              have HB := Lib.hid (HB.out.trans (hb.mono HB.out.size))
              have Hu := Lib.hid hat
              clear hb hown hat
              go_wp2_with fail
              refine (same_k qa ua _ _ qc uc C C true _ Hq.out Hu.out (decide_eq_true rfl)).mono ?_
              rintro e wc17 ⟨rfl, hb⟩
              have Ha := Lib.hid (StrsAt.below Ha.out hb)
              have Hb := Lib.hid (StrsAt.below Hb.out hb)
              have Hp := Lib.hid (StrsAt.below Hp.out hb)
              have Hq := Lib.hid (StrsAt.below Hq.out hb)
              have Ht := Lib.hid (StrsAt.below Ht.out hb)
              have Hu := Lib.hid (StrsAt.below Hu.out hb)
              have HB := Lib.hid (HB.out.trans (hb.mono HB.out.size))
              clear hb
              go_wp2_with fail
              refine (within_k qa a _ an qc ac C al true _ Hq.out Ha.out HSmc.out.1 HSa.out.1 (HO.out.step HB.out) HWl.out).mono ?_
              rintro e wc18 ⟨rfl, hb⟩
              have Ha := Lib.hid (StrsAt.below Ha.out hb)
              have Hb := Lib.hid (StrsAt.below Hb.out hb)
              have Hp := Lib.hid (StrsAt.below Hp.out hb)
              have Hq := Lib.hid (StrsAt.below Hq.out hb)
              have Ht := Lib.hid (StrsAt.below Ht.out hb)
              have Hu := Lib.hid (StrsAt.below Hu.out hb)
              have HB := Lib.hid (HB.out.trans (hb.mono HB.out.size))
              clear hb
              go_wp2_with fail
              refine (within_k qa b _ bn qc bc C bl true _ Hq.out Hb.out HSmc.out.1 HSb.out.1 (HO.out.step HB.out) HWr.out).mono ?_
              rintro e wc19 ⟨rfl, hb⟩
              have Ha := Lib.hid (StrsAt.below Ha.out hb)
              have Hb := Lib.hid (StrsAt.below Hb.out hb)
              have Hp := Lib.hid (StrsAt.below Hp.out hb)
              have Hq := Lib.hid (StrsAt.below Hq.out hb)
              have Ht := Lib.hid (StrsAt.below Ht.out hb)
              have Hu := Lib.hid (StrsAt.below Hu.out hb)
              have HB := Lib.hid (HB.out.trans (hb.mono HB.out.size))
              clear hb
              go_wp2_with fail
              refine (awake_k _ (HO.out.step HB.out)).mono ?_
              rintro e wz ⟨rfl, hb⟩
              have HB := Lib.hid (HB.out.trans (hb.mono HB.out.size))
              clear hb
              go_wp2_with fail
              go_ret
              exact ⟨rfl, HB.out⟩
      · have ys : (200 : Int) < (s.size : Int) := by omega
        go_enter Tryd.func8, Tryd.ntmps8
        go_wp2_with fail
        refine (HFa.out).mono ?_
        rintro e w' ⟨rfl, rfl⟩
        go_wp2_with fail
        refine (HFb.out).mono ?_
        rintro e w' ⟨rfl, rfl⟩
        go_wp2_with fail
        refine (awake_k _ (HO.out.step HB.out)).mono ?_
        rintro e wz ⟨rfl, hb⟩
        have HB := Lib.hid (HB.out.trans (hb.mono HB.out.size))
        clear hb
        go_wp2_with fail
        go_ret
        exact ⟨rfl, HB.out⟩

theorem lxcovered_types : ∀ t ∈ [22, 22, 9], Tryd.prog.readableRec t = true ∧ t < Tryd.prog.types.size := by
  have h : ([22, 22, 9].all fun t => Tryd.prog.readableRec t && decide (t < Tryd.prog.types.size)) = true := by kernel_rfl
  intro t ht
  have := List.all_eq_true.1 h t ht
  simpa using this

set_option maxRecDepth 100000 in
theorem lxcovered_contract (H : Type) (enc : TypeId × Value → H) (W : World) (base : Nat) (args : Array Value) (ds gs : List (DataW H)) (before : List MemPlace)
    (hval : ∀ (j : Nat) t v, Tryd.f8.params[j]? = some t → args[j]? = some v → Value.okWide Tryd.prog W .any base t v)
    (hW : DataW.Whole enc Tryd.prog Tryd.f8.params.toList Rows.scopeCoveredSpec.vars false W args.toList ds gs before) (hL : laidMetH Tryd.prog Rows.scopeCoveredRow.laid W) (hsh : W.ShapedOpen Tryd.prog) :
    Calls Tryd.prog 8 args W fun e W' => ∃ v, e = .returned v ∧ Rows.scopeCoveredSpec.post enc Tryd.prog Tryd.f8 false true false false W args v W' := by
  have hW' := hW
  obtain ⟨p, q, hA0, hV, rfl, hfz, hnd⟩ := hW
  have hA : DataW.TrodAll enc Tryd.prog W 0 (fun _ => true) true Tryd.f8.params.toList args.toList ds p := hA0
  obtain ⟨rfl, rfl⟩ := trodVars_none hV
  simp only [List.append_nil] at hW'
  have hlt : ∀ x ∈ p, x.block < W.heap.size := fun x hx => by simpa using hW'.lt x hx
  have fin : ∀ W', Below W.heap.size W W' → DataW.TrodAll enc Tryd.prog W' 0 (fun b => decide (b < W.heap.size)) true [22, 22, 9] args.toList ds p := fun W' hb => by
    rw [Tryd.params8] at hA
    exact trodAll_below hb _ _ _ _ lxcovered_types hA hlt
  clear hA0
  rw [Tryd.params8] at hA hval
  obtain ⟨v0, vs0, d0, ds0, p0, q0, hargs, rfl, hp0, h0, r0⟩ := trodAll_cons hA
  obtain ⟨v1, vs1, d1, ds1, p1, q1, rfl, rfl, hp1, h1, r1⟩ := trodAll_cons r0
  obtain ⟨v2, vs2, d2, ds2, p2, q2, rfl, rfl, hp2, h2, r2⟩ := trodAll_cons r1
  obtain ⟨rfl, rfl, rfl⟩ := trodAll_nil r2
  obtain rfl : args = #[v0, v1, v2] := by cases args; simp_all
  obtain ⟨a, an, ac, al, rfl, hs0⟩ := open_strs (hval 0 22 v0 rfl rfl) h0
  obtain ⟨b, bn, bc, bl, rfl, hs1⟩ := open_strs (hval 1 22 v1 rfl rfl) h1
  obtain ⟨s, rfl, rfl, rfl, hs2⟩ := open_string Tryd.underlying9 (hval 2 9 v2 rfl rfl) h2
  refine (lxcovered_s a an ac al b bn bc bl s W hs0 hs1 (max_ok hsh)).mono fun e W' ⟨he, hb⟩ => ?_
  subst he
  exact ⟨_, rfl, _, _, _, [], p, [], hW', trodAll_mk1 (shut_bool Tryd.underlying4 _), fin W' hb, rfl, hb.frame _, fun h => by cases h⟩

set_option maxRecDepth 100000 in
theorem lxcovered_lifted (os : Os) (started : os.Started) (H : Type) (enc : TypeId × Value → H) (F : Stop.Interp) :
    ReturnsInHanded {} Tryd.checked os 8 .any ((OpenSpec.ofChange Rows.scopeCoveredSpec).preRow enc Tryd.prog Tryd.f8 Rows.scopeCoveredRow.domain false Rows.scopeCoveredRow.laid) (((OpenSpec.ofChange Rows.scopeCoveredSpec).at F).post enc Tryd.prog Tryd.f8 false true false false) := by
  refine returnsInHanded_of_row (C := Tryd.checked) (s := OpenSpec.ofChange Rows.scopeCoveredSpec) own started (by kernel_rfl) Tryd.func8
    (witness_row (enc := enc) (C := Tryd.checked) false (World.laidAll Tryd.prog os Rows.scopeCoveredRow.laid) #[.slice none 0 0, .slice none 0 0, .string ⟨#[]⟩] (World.laidAll_os _ _ _)
      (World.shaped_of_ZipB (by kernel_rfl) (by kernel_rfl)) (by kernel_rfl)
      (OpenSpec.preRow_of_cond 8 (x := ([.nil, .nil, .lit (.string [])], [], [])) (by kernel_rfl) (by kernel_rfl) (fun k hk => by cases hk) (by kernel_rfl)
        (by rw [MakeChecks.laidMetH_plain _ _ _ (by kernel_rfl)]; exact laidMet_laidAll _ (by kernel_rfl) (by kernel_rfl)))) ?_
  intro W base args ds gs before hval hW _ _ _ hL hsh _
  exact lxcovered_contract H enc W base args ds gs before hval hW hL hsh

set_option maxRecDepth 100000 in
theorem lxcovered_said : Rows.ScopeCoveredSaid :=
  OpenClaim.holds_of_cond 8 Tryd.f8 rfl rfl rfl rfl rfl rfl rfl ⟨rfl, rfl, rfl, rfl, rfl⟩ rfl rfl rfl rfl rfl (by kernel_rfl) Tryd.func8 (by kernel_rfl)
    (of_decide_eq_true (by kernel_rfl)) (by unfold Func.isWrapper; first | (rw [if_pos (by decide +kernel)]; kernel_rfl) | (rw [if_neg (by decide +kernel)]; exact ⟨rfl, rfl⟩))
    (fun os started H enc _ F => by rw [OpenClaim.pre_eq_preRow]; exact lxcovered_lifted os started H enc F)

set_option maxRecDepth 100000 in
theorem lxcovered_plain (f : FuncId) (fn : Func) (hf : Tryd.pinned.checked.prog.funcNamed "identity/identitylaw29.ScopeCovered" = some f) (hfn : Tryd.pinned.checked.prog.funcs[f]? = some fn) :
    false = Tryd.pinned.checked.prog.looks [] ∧ ∀ (j : Nat) t, fn.params[j]? = some t → Tryd.pinned.checked.prog.wantsStandIn t = false := by
  obtain rfl : f = 8 := Option.some.inj ((show Tryd.prog.funcNamed "identity/identitylaw29.ScopeCovered" = some 8 by kernel_rfl).symm.trans hf) |>.symm
  obtain rfl : fn = Tryd.f8 := (Option.some.inj (Tryd.func8.symm.trans hfn)).symm
  refine ⟨by kernel_rfl, fun j t ht => ?_⟩
  rw [Tryd.params8] at ht
  have hm : t ∈ [22, 22, 9] := by simpa using Array.mem_of_getElem? ht
  have hall : ([22, 22, 9].all fun u => !Tryd.prog.wantsStandIn u) = true := by kernel_rfl
  exact (show Tryd.prog.wantsStandIn t = false by simpa using List.all_eq_true.1 hall t hm)

/-- THE CARD -/
theorem lxcovered_card : Rows.ScopeCoveredCardSaid :=
  Claim7.holds_tied_plain_at .later [] _ _ _ _ lxcovered_said (fun _ h => by cases h) (by kernel_rfl) (fun _ h => by cases h) scopeCovered_row_tie rfl ⟨rfl, rfl⟩ (by kernel_rfl) rfl lxcovered_plain (by kernel_rfl)
end Go.Proofs.YtminodinhbcgnaaDoor
