/-
  Proved: identitylaw29.ScopeOrder returns true for all arguments (the tied card). No condition beyond the row's own.
-/
import Derived.Test.YtminodinhbcgnaaDoorScoLaws
import Derived.Deep.RegionHeld3
set_option linter.unusedVariables false
set_option linter.unusedSimpArgs false
set_option linter.unnecessarySimpa false
namespace Go.Proofs.YtminodinhbcgnaaDoor
open Go.ChangeShapes Go.WideShapes Go.ChangeAt Go.RowKit Go.PlainAid
open Go.ChangeMaps (open_string shut_string)

set_option maxRecDepth 100000 in
set_option maxHeartbeats 16000000 in
theorem lxorder_s (a : ByteArray) (b : ByteArray) (c : ByteArray) (w : World)  (ho : MaxOk w) :
    Calls Tryd.prog 7 #[.string a, .string b, .string c] w fun e w' => e = .returned (.bool true) ∧ Below w.heap.size w w' := by
  have HO := Lib.hid ho
  clear ho
  have HB := Lib.hid (box_below w (.cells #[.string a, .string b, .string c] 9))
  obtain ⟨f, hf⟩ : ∃ x, fewB [a, b, c] = x := ⟨_, rfl⟩
  have HF : Hid (Calls Tryd.prog 10 #[.slice (some ⟨w.heap.size, 0, none⟩) 3 3] (w.alloc (.cells #[.string a, .string b, .string c] 9)) fun e w' => e = .returned (.bool f) ∧ w.alloc (.cells #[.string a, .string b, .string c] 9) = w') := Lib.hid (few_k (some ⟨w.heap.size, 0, none⟩) 3 3 [a, b, c] f _ (lit_new w [a, b, c] (by simp)) hf)
  cases f with
  | false =>
    clear hf
    go_enter Tryd.func7, Tryd.ntmps7
    go_wp2_with fail
    refine (HF.out).mono ?_
    rintro e w' ⟨rfl, rfl⟩
    go_wp2_with fail
    refine (awake_k _ (HO.out.step HB.out)).mono ?_
    rintro e wz ⟨rfl, hb⟩
    have HB := Lib.hid (HB.out.trans (hb.mono HB.out.size))
    clear hb
    go_wp2_with fail
    go_ret
    exact ⟨rfl, HB.out⟩
  | true =>
    have hS := (few_sms hf).2.2
    have za : a.size ≤ 200 := hS 0 (by simp)
    have zb : b.size ≤ 200 := hS 1 (by simp)
    have zc : c.size ≤ 200 := hS 2 (by simp)
    clear hf hS
    obtain ⟨W1, hW1⟩ : ∃ W, w.alloc (.cells #[.string a, .string b, .string c] 9) = W := ⟨_, rfl⟩
    obtain ⟨ab, hab⟩ : ∃ x, imp a b = x := ⟨_, rfl⟩
    obtain ⟨bc, hbc⟩ : ∃ x, imp b c = x := ⟨_, rfl⟩
    obtain ⟨ba, hba⟩ : ∃ x, imp b a = x := ⟨_, rfl⟩
    obtain ⟨y, hy⟩ : ∃ x, vdB a = x := ⟨_, rfl⟩
    have HAB := Lib.hid (fun W hW => implies_k a b ab W (by omega) (by omega) hW hab)
    have HBC := Lib.hid (fun W hW => implies_k b c bc W (by omega) (by omega) hW hbc)
    have HBA := Lib.hid (fun W hW => implies_k b a ba W (by omega) (by omega) hW hba)
    have HAA := Lib.hid (fun W hW => implies_k a a y W (by omega) (by omega) hW (by rw [imp_self]; exact hy))
    have hck := chk_one a
    rw [hy] at hck
    have HSm := Lib.hid (sms_one (show a.size ≤ 1000000 by omega))
    clear hy hW1
    cases ab with
    | false =>
      clear hab hbc hba
      cases y with
      | true =>
        have hcy : chkS [a] = 0 := hck
        have HCk := Lib.hid hcy
        have hb7 := box_below (w.alloc (.cells #[.string a, .string b, .string c] 9)) (.cells #[.string a] 9)
        have HB7 := Lib.hid (HB.out.trans (hb7.mono HB.out.size))
        have HCC := Lib.hid (check_k (some ⟨(w.alloc (.cells #[.string a, .string b, .string c] 9)).heap.size, 0, none⟩) 1 1 [a] 0 _ (lit_new (w.alloc (.cells #[.string a, .string b, .string c] 9)) [a] (by simp)) HSm.out (HO.out.step HB7.out) HCk.out)
        simp only [World.size_alloc] at HCC
        clear hcy hb7 hck
        go_enter Tryd.func7, Tryd.ntmps7
        go_wp2_with fail
        refine (HF.out).mono ?_
        rintro e w' ⟨rfl, rfl⟩
        go_wp2_with fail
        refine (HAB.out _ (HO.out.step HB.out)).mono ?_
        rintro e w' ⟨rfl, rfl⟩
        go_wp2_with fail
        refine (HAB.out _ (HO.out.step HB.out)).mono ?_
        rintro e w' ⟨rfl, rfl⟩
        go_wp2_with fail
        refine (HAA.out _ (HO.out.step HB.out)).mono ?_
        rintro e w' ⟨rfl, rfl⟩
        go_wp2_with fail
        refine (HCC.out).mono ?_
        rintro e w' ⟨rfl, rfl⟩
        go_wp2_with fail
        have HB := HB7
        refine (awake_k _ (HO.out.step HB.out)).mono ?_
        rintro e wz ⟨rfl, hb⟩
        have HB := Lib.hid (HB.out.trans (hb.mono HB.out.size))
        clear hb
        go_wp2_with fail
        go_ret
        exact ⟨rfl, HB.out⟩
      | false =>
        have hcy : chkS [a] = 5 := hck
        have HCk := Lib.hid hcy
        have hb7 := box_below (w.alloc (.cells #[.string a, .string b, .string c] 9)) (.cells #[.string a] 9)
        have HB7 := Lib.hid (HB.out.trans (hb7.mono HB.out.size))
        have HCC := Lib.hid (check_k (some ⟨(w.alloc (.cells #[.string a, .string b, .string c] 9)).heap.size, 0, none⟩) 1 1 [a] 5 _ (lit_new (w.alloc (.cells #[.string a, .string b, .string c] 9)) [a] (by simp)) HSm.out (HO.out.step HB7.out) HCk.out)
        simp only [World.size_alloc] at HCC
        clear hcy hb7 hck
        go_enter Tryd.func7, Tryd.ntmps7
        go_wp2_with fail
        refine (HF.out).mono ?_
        rintro e w' ⟨rfl, rfl⟩
        go_wp2_with fail
        refine (HAB.out _ (HO.out.step HB.out)).mono ?_
        rintro e w' ⟨rfl, rfl⟩
        go_wp2_with fail
        refine (HAB.out _ (HO.out.step HB.out)).mono ?_
        rintro e w' ⟨rfl, rfl⟩
        go_wp2_with fail
        refine (HAA.out _ (HO.out.step HB.out)).mono ?_
        rintro e w' ⟨rfl, rfl⟩
        go_wp2_with fail
        refine (HCC.out).mono ?_
        rintro e w' ⟨rfl, rfl⟩
        go_wp2_with fail
        have HB := HB7
        refine (awake_k _ (HO.out.step HB.out)).mono ?_
        rintro e wz ⟨rfl, hb⟩
        have HB := Lib.hid (HB.out.trans (hb.mono HB.out.size))
        clear hb
        go_wp2_with fail
        go_ret
        exact ⟨rfl, HB.out⟩
    | true =>
      cases bc with
      | true =>
        have hac := imp_trans hab hbc
        have HAC := Lib.hid (fun W hW => implies_k a c true W (by omega) (by omega) hW hac)
        clear hac
        cases ba with
        | true =>
          have q1 : (a.toList != b.toList) = false := by rw [imp_anti hab hba]; exact bne_s b
          have q2 : (a.toList == b.toList) = true := by rw [imp_anti hab hba]; exact beq_s b
          clear hab hbc hba
          cases y with
          | true =>
            have hcy : chkS [a] = 0 := hck
            have HCk := Lib.hid hcy
            have hb7 := box_below (w.alloc (.cells #[.string a, .string b, .string c] 9)) (.cells #[.string a] 9)
            have HB7 := Lib.hid (HB.out.trans (hb7.mono HB.out.size))
            have HCC := Lib.hid (check_k (some ⟨(w.alloc (.cells #[.string a, .string b, .string c] 9)).heap.size, 0, none⟩) 1 1 [a] 0 _ (lit_new (w.alloc (.cells #[.string a, .string b, .string c] 9)) [a] (by simp)) HSm.out (HO.out.step HB7.out) HCk.out)
            simp only [World.size_alloc] at HCC
            clear hcy hb7 hck
            go_enter Tryd.func7, Tryd.ntmps7
            go_wp2_with fail
            refine (HF.out).mono ?_
            rintro e w' ⟨rfl, rfl⟩
            go_wp2_with fail
            refine (HAB.out _ (HO.out.step HB.out)).mono ?_
            rintro e w' ⟨rfl, rfl⟩
            go_wp2_with fail
            refine (HBC.out _ (HO.out.step HB.out)).mono ?_
            rintro e w' ⟨rfl, rfl⟩
            go_wp2_with fail
            refine (HAC.out _ (HO.out.step HB.out)).mono ?_
            rintro e w' ⟨rfl, rfl⟩
            go_wp2_with fail
            refine (HAB.out _ (HO.out.step HB.out)).mono ?_
            rintro e w' ⟨rfl, rfl⟩
            go_wp2_with fail
            refine (HBA.out _ (HO.out.step HB.out)).mono ?_
            rintro e w' ⟨rfl, rfl⟩
            go_wp2_with fail
            refine (HAA.out _ (HO.out.step HB.out)).mono ?_
            rintro e w' ⟨rfl, rfl⟩
            go_wp2_with fail
            refine (HCC.out).mono ?_
            rintro e w' ⟨rfl, rfl⟩
            go_wp2_with fail
            have HB := HB7
            refine (awake_k _ (HO.out.step HB.out)).mono ?_
            rintro e wz ⟨rfl, hb⟩
            have HB := Lib.hid (HB.out.trans (hb.mono HB.out.size))
            clear hb
            go_wp2_with fail
            go_ret
            exact ⟨rfl, HB.out⟩
          | false =>
            have hcy : chkS [a] = 5 := hck
            have HCk := Lib.hid hcy
            have hb7 := box_below (w.alloc (.cells #[.string a, .string b, .string c] 9)) (.cells #[.string a] 9)
            have HB7 := Lib.hid (HB.out.trans (hb7.mono HB.out.size))
            have HCC := Lib.hid (check_k (some ⟨(w.alloc (.cells #[.string a, .string b, .string c] 9)).heap.size, 0, none⟩) 1 1 [a] 5 _ (lit_new (w.alloc (.cells #[.string a, .string b, .string c] 9)) [a] (by simp)) HSm.out (HO.out.step HB7.out) HCk.out)
            simp only [World.size_alloc] at HCC
            clear hcy hb7 hck
            go_enter Tryd.func7, Tryd.ntmps7
            go_wp2_with fail
            refine (HF.out).mono ?_
            rintro e w' ⟨rfl, rfl⟩
            go_wp2_with fail
            refine (HAB.out _ (HO.out.step HB.out)).mono ?_
            rintro e w' ⟨rfl, rfl⟩
            go_wp2_with fail
            refine (HBC.out _ (HO.out.step HB.out)).mono ?_
            rintro e w' ⟨rfl, rfl⟩
            go_wp2_with fail
            refine (HAC.out _ (HO.out.step HB.out)).mono ?_
            rintro e w' ⟨rfl, rfl⟩
            go_wp2_with fail
            refine (HAB.out _ (HO.out.step HB.out)).mono ?_
            rintro e w' ⟨rfl, rfl⟩
            go_wp2_with fail
            refine (HBA.out _ (HO.out.step HB.out)).mono ?_
            rintro e w' ⟨rfl, rfl⟩
            go_wp2_with fail
            refine (HAA.out _ (HO.out.step HB.out)).mono ?_
            rintro e w' ⟨rfl, rfl⟩
            go_wp2_with fail
            refine (HCC.out).mono ?_
            rintro e w' ⟨rfl, rfl⟩
            go_wp2_with fail
            have HB := HB7
            refine (awake_k _ (HO.out.step HB.out)).mono ?_
            rintro e wz ⟨rfl, hb⟩
            have HB := Lib.hid (HB.out.trans (hb.mono HB.out.size))
            clear hb
            go_wp2_with fail
            go_ret
            exact ⟨rfl, HB.out⟩
        | false =>
          clear hab hbc hba
          cases y with
          | true =>
            have hcy : chkS [a] = 0 := hck
            have HCk := Lib.hid hcy
            have hb7 := box_below (w.alloc (.cells #[.string a, .string b, .string c] 9)) (.cells #[.string a] 9)
            have HB7 := Lib.hid (HB.out.trans (hb7.mono HB.out.size))
            have HCC := Lib.hid (check_k (some ⟨(w.alloc (.cells #[.string a, .string b, .string c] 9)).heap.size, 0, none⟩) 1 1 [a] 0 _ (lit_new (w.alloc (.cells #[.string a, .string b, .string c] 9)) [a] (by simp)) HSm.out (HO.out.step HB7.out) HCk.out)
            simp only [World.size_alloc] at HCC
            clear hcy hb7 hck
            go_enter Tryd.func7, Tryd.ntmps7
            go_wp2_with fail
            refine (HF.out).mono ?_
            rintro e w' ⟨rfl, rfl⟩
            go_wp2_with fail
            refine (HAB.out _ (HO.out.step HB.out)).mono ?_
            rintro e w' ⟨rfl, rfl⟩
            go_wp2_with fail
            refine (HBC.out _ (HO.out.step HB.out)).mono ?_
            rintro e w' ⟨rfl, rfl⟩
            go_wp2_with fail
            refine (HAC.out _ (HO.out.step HB.out)).mono ?_
            rintro e w' ⟨rfl, rfl⟩
            go_wp2_with fail
            refine (HAB.out _ (HO.out.step HB.out)).mono ?_
            rintro e w' ⟨rfl, rfl⟩
            go_wp2_with fail
            refine (HBA.out _ (HO.out.step HB.out)).mono ?_
            rintro e w' ⟨rfl, rfl⟩
            go_wp2_with fail
            refine (HAA.out _ (HO.out.step HB.out)).mono ?_
            rintro e w' ⟨rfl, rfl⟩
            go_wp2_with fail
            refine (HCC.out).mono ?_
            rintro e w' ⟨rfl, rfl⟩
            go_wp2_with fail
            have HB := HB7
            refine (awake_k _ (HO.out.step HB.out)).mono ?_
            rintro e wz ⟨rfl, hb⟩
            have HB := Lib.hid (HB.out.trans (hb.mono HB.out.size))
            clear hb
            go_wp2_with fail
            go_ret
            exact ⟨rfl, HB.out⟩
          | false =>
            have hcy : chkS [a] = 5 := hck
            have HCk := Lib.hid hcy
            have hb7 := box_below (w.alloc (.cells #[.string a, .string b, .string c] 9)) (.cells #[.string a] 9)
            have HB7 := Lib.hid (HB.out.trans (hb7.mono HB.out.size))
            have HCC := Lib.hid (check_k (some ⟨(w.alloc (.cells #[.string a, .string b, .string c] 9)).heap.size, 0, none⟩) 1 1 [a] 5 _ (lit_new (w.alloc (.cells #[.string a, .string b, .string c] 9)) [a] (by simp)) HSm.out (HO.out.step HB7.out) HCk.out)
            simp only [World.size_alloc] at HCC
            clear hcy hb7 hck
            go_enter Tryd.func7, Tryd.ntmps7
            go_wp2_with fail
            refine (HF.out).mono ?_
            rintro e w' ⟨rfl, rfl⟩
            go_wp2_with fail
            refine (HAB.out _ (HO.out.step HB.out)).mono ?_
            rintro e w' ⟨rfl, rfl⟩
            go_wp2_with fail
            refine (HBC.out _ (HO.out.step HB.out)).mono ?_
            rintro e w' ⟨rfl, rfl⟩
            go_wp2_with fail
            refine (HAC.out _ (HO.out.step HB.out)).mono ?_
            rintro e w' ⟨rfl, rfl⟩
            go_wp2_with fail
            refine (HAB.out _ (HO.out.step HB.out)).mono ?_
            rintro e w' ⟨rfl, rfl⟩
            go_wp2_with fail
            refine (HBA.out _ (HO.out.step HB.out)).mono ?_
            rintro e w' ⟨rfl, rfl⟩
            go_wp2_with fail
            refine (HAA.out _ (HO.out.step HB.out)).mono ?_
            rintro e w' ⟨rfl, rfl⟩
            go_wp2_with fail
            refine (HCC.out).mono ?_
            rintro e w' ⟨rfl, rfl⟩
            go_wp2_with fail
            have HB := HB7
            refine (awake_k _ (HO.out.step HB.out)).mono ?_
            rintro e wz ⟨rfl, hb⟩
            have HB := Lib.hid (HB.out.trans (hb.mono HB.out.size))
            clear hb
            go_wp2_with fail
            go_ret
            exact ⟨rfl, HB.out⟩
      | false =>
        cases ba with
        | true =>
          have q1 : (a.toList != b.toList) = false := by rw [imp_anti hab hba]; exact bne_s b
          have q2 : (a.toList == b.toList) = true := by rw [imp_anti hab hba]; exact beq_s b
          clear hab hbc hba
          cases y with
          | true =>
            have hcy : chkS [a] = 0 := hck
            have HCk := Lib.hid hcy
            have hb7 := box_below (w.alloc (.cells #[.string a, .string b, .string c] 9)) (.cells #[.string a] 9)
            have HB7 := Lib.hid (HB.out.trans (hb7.mono HB.out.size))
            have HCC := Lib.hid (check_k (some ⟨(w.alloc (.cells #[.string a, .string b, .string c] 9)).heap.size, 0, none⟩) 1 1 [a] 0 _ (lit_new (w.alloc (.cells #[.string a, .string b, .string c] 9)) [a] (by simp)) HSm.out (HO.out.step HB7.out) HCk.out)
            simp only [World.size_alloc] at HCC
            clear hcy hb7 hck
            go_enter Tryd.func7, Tryd.ntmps7
            go_wp2_with fail
            refine (HF.out).mono ?_
            rintro e w' ⟨rfl, rfl⟩
            go_wp2_with fail
            refine (HAB.out _ (HO.out.step HB.out)).mono ?_
            rintro e w' ⟨rfl, rfl⟩
            go_wp2_with fail
            refine (HBC.out _ (HO.out.step HB.out)).mono ?_
            rintro e w' ⟨rfl, rfl⟩
            go_wp2_with fail
            refine (HAB.out _ (HO.out.step HB.out)).mono ?_
            rintro e w' ⟨rfl, rfl⟩
            go_wp2_with fail
            refine (HBA.out _ (HO.out.step HB.out)).mono ?_
            rintro e w' ⟨rfl, rfl⟩
            go_wp2_with fail
            refine (HAA.out _ (HO.out.step HB.out)).mono ?_
            rintro e w' ⟨rfl, rfl⟩
            go_wp2_with fail
            refine (HCC.out).mono ?_
            rintro e w' ⟨rfl, rfl⟩
            go_wp2_with fail
            have HB := HB7
            refine (awake_k _ (HO.out.step HB.out)).mono ?_
            rintro e wz ⟨rfl, hb⟩
            have HB := Lib.hid (HB.out.trans (hb.mono HB.out.size))
            clear hb
            go_wp2_with fail
            go_ret
            exact ⟨rfl, HB.out⟩
          | false =>
            have hcy : chkS [a] = 5 := hck
            have HCk := Lib.hid hcy
            have hb7 := box_below (w.alloc (.cells #[.string a, .string b, .string c] 9)) (.cells #[.string a] 9)
            have HB7 := Lib.hid (HB.out.trans (hb7.mono HB.out.size))
            have HCC := Lib.hid (check_k (some ⟨(w.alloc (.cells #[.string a, .string b, .string c] 9)).heap.size, 0, none⟩) 1 1 [a] 5 _ (lit_new (w.alloc (.cells #[.string a, .string b, .string c] 9)) [a] (by simp)) HSm.out (HO.out.step HB7.out) HCk.out)
            simp only [World.size_alloc] at HCC
            clear hcy hb7 hck
            go_enter Tryd.func7, Tryd.ntmps7
            go_wp2_with fail
            refine (HF.out).mono ?_
            rintro e w' ⟨rfl, rfl⟩
            go_wp2_with fail
            refine (HAB.out _ (HO.out.step HB.out)).mono ?_
            rintro e w' ⟨rfl, rfl⟩
            go_wp2_with fail
            refine (HBC.out _ (HO.out.step HB.out)).mono ?_
            rintro e w' ⟨rfl, rfl⟩
            go_wp2_with fail
            refine (HAB.out _ (HO.out.step HB.out)).mono ?_
            rintro e w' ⟨rfl, rfl⟩
            go_wp2_with fail
            refine (HBA.out _ (HO.out.step HB.out)).mono ?_
            rintro e w' ⟨rfl, rfl⟩
            go_wp2_with fail
            refine (HAA.out _ (HO.out.step HB.out)).mono ?_
            rintro e w' ⟨rfl, rfl⟩
            go_wp2_with fail
            refine (HCC.out).mono ?_
            rintro e w' ⟨rfl, rfl⟩
            go_wp2_with fail
            have HB := HB7
            refine (awake_k _ (HO.out.step HB.out)).mono ?_
            rintro e wz ⟨rfl, hb⟩
            have HB := Lib.hid (HB.out.trans (hb.mono HB.out.size))
            clear hb
            go_wp2_with fail
            go_ret
            exact ⟨rfl, HB.out⟩
        | false =>
          clear hab hbc hba
          cases y with
          | true =>
            have hcy : chkS [a] = 0 := hck
            have HCk := Lib.hid hcy
            have hb7 := box_below (w.alloc (.cells #[.string a, .string b, .string c] 9)) (.cells #[.string a] 9)
            have HB7 := Lib.hid (HB.out.trans (hb7.mono HB.out.size))
            have HCC := Lib.hid (check_k (some ⟨(w.alloc (.cells #[.string a, .string b, .string c] 9)).heap.size, 0, none⟩) 1 1 [a] 0 _ (lit_new (w.alloc (.cells #[.string a, .string b, .string c] 9)) [a] (by simp)) HSm.out (HO.out.step HB7.out) HCk.out)
            simp only [World.size_alloc] at HCC
            clear hcy hb7 hck
            go_enter Tryd.func7, Tryd.ntmps7
            go_wp2_with fail
            refine (HF.out).mono ?_
            rintro e w' ⟨rfl, rfl⟩
            go_wp2_with fail
            refine (HAB.out _ (HO.out.step HB.out)).mono ?_
            rintro e w' ⟨rfl, rfl⟩
            go_wp2_with fail
            refine (HBC.out _ (HO.out.step HB.out)).mono ?_
            rintro e w' ⟨rfl, rfl⟩
            go_wp2_with fail
            refine (HAB.out _ (HO.out.step HB.out)).mono ?_
            rintro e w' ⟨rfl, rfl⟩
            go_wp2_with fail
            refine (HBA.out _ (HO.out.step HB.out)).mono ?_
            rintro e w' ⟨rfl, rfl⟩
            go_wp2_with fail
            refine (HAA.out _ (HO.out.step HB.out)).mono ?_
            rintro e w' ⟨rfl, rfl⟩
            go_wp2_with fail
            refine (HCC.out).mono ?_
            rintro e w' ⟨rfl, rfl⟩
            go_wp2_with fail
            have HB := HB7
            refine (awake_k _ (HO.out.step HB.out)).mono ?_
            rintro e wz ⟨rfl, hb⟩
            have HB := Lib.hid (HB.out.trans (hb.mono HB.out.size))
            clear hb
            go_wp2_with fail
            go_ret
            exact ⟨rfl, HB.out⟩
          | false =>
            have hcy : chkS [a] = 5 := hck
            have HCk := Lib.hid hcy
            have hb7 := box_below (w.alloc (.cells #[.string a, .string b, .string c] 9)) (.cells #[.string a] 9)
            have HB7 := Lib.hid (HB.out.trans (hb7.mono HB.out.size))
            have HCC := Lib.hid (check_k (some ⟨(w.alloc (.cells #[.string a, .string b, .string c] 9)).heap.size, 0, none⟩) 1 1 [a] 5 _ (lit_new (w.alloc (.cells #[.string a, .string b, .string c] 9)) [a] (by simp)) HSm.out (HO.out.step HB7.out) HCk.out)
            simp only [World.size_alloc] at HCC
            clear hcy hb7 hck
            go_enter Tryd.func7, Tryd.ntmps7
            go_wp2_with fail
            refine (HF.out).mono ?_
            rintro e w' ⟨rfl, rfl⟩
            go_wp2_with fail
            refine (HAB.out _ (HO.out.step HB.out)).mono ?_
            rintro e w' ⟨rfl, rfl⟩
            go_wp2_with fail
            refine (HBC.out _ (HO.out.step HB.out)).mono ?_
            rintro e w' ⟨rfl, rfl⟩
            go_wp2_with fail
            refine (HAB.out _ (HO.out.step HB.out)).mono ?_
            rintro e w' ⟨rfl, rfl⟩
            go_wp2_with fail
            refine (HBA.out _ (HO.out.step HB.out)).mono ?_
            rintro e w' ⟨rfl, rfl⟩
            go_wp2_with fail
            refine (HAA.out _ (HO.out.step HB.out)).mono ?_
            rintro e w' ⟨rfl, rfl⟩
            go_wp2_with fail
            refine (HCC.out).mono ?_
            rintro e w' ⟨rfl, rfl⟩
            go_wp2_with fail
            have HB := HB7
            refine (awake_k _ (HO.out.step HB.out)).mono ?_
            rintro e wz ⟨rfl, hb⟩
            have HB := Lib.hid (HB.out.trans (hb.mono HB.out.size))
            clear hb
            go_wp2_with fail
            go_ret
            exact ⟨rfl, HB.out⟩

theorem lxorder_types : ∀ t ∈ [9, 9, 9], Tryd.prog.readableRec t = true ∧ t < Tryd.prog.types.size := by
  have h : ([9, 9, 9].all fun t => Tryd.prog.readableRec t && decide (t < Tryd.prog.types.size)) = true := by kernel_rfl
  intro t ht
  have := List.all_eq_true.1 h t ht
  simpa using this

set_option maxRecDepth 100000 in
theorem lxorder_contract (H : Type) (enc : TypeId × Value → H) (W : World) (base : Nat) (args : Array Value) (ds gs : List (DataW H)) (before : List MemPlace)
    (hval : ∀ (j : Nat) t v, Tryd.f7.params[j]? = some t → args[j]? = some v → Value.okWide Tryd.prog W .any base t v)
    (hW : DataW.Whole enc Tryd.prog Tryd.f7.params.toList Rows.scopeOrderSpec.vars false W args.toList ds gs before) (hL : laidMetH Tryd.prog Rows.scopeOrderRow.laid W) (hsh : W.ShapedOpen Tryd.prog) :
    Calls Tryd.prog 7 args W fun e W' => ∃ v, e = .returned v ∧ Rows.scopeOrderSpec.post enc Tryd.prog Tryd.f7 false true false false W args v W' := by
  have hW' := hW
  obtain ⟨p, q, hA0, hV, rfl, hfz, hnd⟩ := hW
  have hA : DataW.TrodAll enc Tryd.prog W 0 (fun _ => true) true Tryd.f7.params.toList args.toList ds p := hA0
  obtain ⟨rfl, rfl⟩ := trodVars_none hV
  simp only [List.append_nil] at hW'
  have hlt : ∀ x ∈ p, x.block < W.heap.size := fun x hx => by simpa using hW'.lt x hx
  have fin : ∀ W', Below W.heap.size W W' → DataW.TrodAll enc Tryd.prog W' 0 (fun b => decide (b < W.heap.size)) true [9, 9, 9] args.toList ds p := fun W' hb => by
    rw [Tryd.params7] at hA
    exact trodAll_below hb _ _ _ _ lxorder_types hA hlt
  clear hA0
  rw [Tryd.params7] at hA hval
  obtain ⟨v0, vs0, d0, ds0, p0, q0, hargs, rfl, hp0, h0, r0⟩ := trodAll_cons hA
  obtain ⟨v1, vs1, d1, ds1, p1, q1, rfl, rfl, hp1, h1, r1⟩ := trodAll_cons r0
  obtain ⟨v2, vs2, d2, ds2, p2, q2, rfl, rfl, hp2, h2, r2⟩ := trodAll_cons r1
  obtain ⟨rfl, rfl, rfl⟩ := trodAll_nil r2
  obtain rfl : args = #[v0, v1, v2] := by cases args; simp_all
  obtain ⟨a, rfl, rfl, rfl, hs0⟩ := open_string Tryd.underlying9 (hval 0 9 v0 rfl rfl) h0
  obtain ⟨b, rfl, rfl, rfl, hs1⟩ := open_string Tryd.underlying9 (hval 1 9 v1 rfl rfl) h1
  obtain ⟨c, rfl, rfl, rfl, hs2⟩ := open_string Tryd.underlying9 (hval 2 9 v2 rfl rfl) h2
  refine (lxorder_s a b c W (max_ok hsh)).mono fun e W' ⟨he, hb⟩ => ?_
  subst he
  exact ⟨_, rfl, _, _, _, [], p, [], hW', trodAll_mk1 (shut_bool Tryd.underlying4 _), fin W' hb, rfl, hb.frame _, fun h => by cases h⟩

set_option maxRecDepth 100000 in
theorem lxorder_lifted (os : Os) (started : os.Started) (H : Type) (enc : TypeId × Value → H) (F : Stop.Interp) :
    ReturnsInHanded {} Tryd.checked os 7 .any ((OpenSpec.ofChange Rows.scopeOrderSpec).preRow enc Tryd.prog Tryd.f7 Rows.scopeOrderRow.domain false Rows.scopeOrderRow.laid) (((OpenSpec.ofChange Rows.scopeOrderSpec).at F).post enc Tryd.prog Tryd.f7 false true false false) := by
  refine returnsInHanded_of_row (C := Tryd.checked) (s := OpenSpec.ofChange Rows.scopeOrderSpec) own started (by kernel_rfl) Tryd.func7
    (witness_row (enc := enc) (C := Tryd.checked) false (World.laidAll Tryd.prog os Rows.scopeOrderRow.laid) #[.string ⟨#[]⟩, .string ⟨#[]⟩, .string ⟨#[]⟩] (World.laidAll_os _ _ _)
      (World.shaped_of_ZipB (by kernel_rfl) (by kernel_rfl)) (by kernel_rfl)
      (OpenSpec.preRow_of_cond 8 (x := ([.lit (.string []), .lit (.string []), .lit (.string [])], [], [])) (by kernel_rfl) (by kernel_rfl) (fun k hk => by cases hk) (by kernel_rfl)
        (by rw [MakeChecks.laidMetH_plain _ _ _ (by kernel_rfl)]; exact laidMet_laidAll _ (by kernel_rfl) (by kernel_rfl)))) ?_
  intro W base args ds gs before hval hW _ _ _ hL hsh _
  exact lxorder_contract H enc W base args ds gs before hval hW hL hsh

set_option maxRecDepth 100000 in
theorem lxorder_said : Rows.ScopeOrderSaid :=
  OpenClaim.holds_of_cond 7 Tryd.f7 rfl rfl rfl rfl rfl rfl rfl ⟨rfl, rfl, rfl, rfl, rfl⟩ rfl rfl rfl rfl rfl (by kernel_rfl) Tryd.func7 (by kernel_rfl)
    (of_decide_eq_true (by kernel_rfl)) (by unfold Func.isWrapper; first | (rw [if_pos (by decide +kernel)]; kernel_rfl) | (rw [if_neg (by decide +kernel)]; exact ⟨rfl, rfl⟩))
    (fun os started H enc _ F => by rw [OpenClaim.pre_eq_preRow]; exact lxorder_lifted os started H enc F)

set_option maxRecDepth 100000 in
theorem lxorder_plain (f : FuncId) (fn : Func) (hf : Tryd.pinned.checked.prog.funcNamed "identity/identitylaw29.ScopeOrder" = some f) (hfn : Tryd.pinned.checked.prog.funcs[f]? = some fn) :
    false = Tryd.pinned.checked.prog.looks [] ∧ ∀ (j : Nat) t, fn.params[j]? = some t → Tryd.pinned.checked.prog.wantsStandIn t = false := by
  obtain rfl : f = 7 := Option.some.inj ((show Tryd.prog.funcNamed "identity/identitylaw29.ScopeOrder" = some 7 by kernel_rfl).symm.trans hf) |>.symm
  obtain rfl : fn = Tryd.f7 := (Option.some.inj (Tryd.func7.symm.trans hfn)).symm
  refine ⟨by kernel_rfl, fun j t ht => ?_⟩
  rw [Tryd.params7] at ht
  have hm : t ∈ [9, 9, 9] := by simpa using Array.mem_of_getElem? ht
  have hall : ([9, 9, 9].all fun u => !Tryd.prog.wantsStandIn u) = true := by kernel_rfl
  exact (show Tryd.prog.wantsStandIn t = false by simpa using List.all_eq_true.1 hall t hm)

/-- THE CARD -/
theorem lxorder_card : Rows.ScopeOrderCardSaid :=
  Claim7.holds_tied_plain_at .later [] _ _ _ _ lxorder_said (fun _ h => by cases h) (by kernel_rfl) (fun _ h => by cases h) scopeOrder_row_tie rfl ⟨rfl, rfl⟩ (by kernel_rfl) rfl lxorder_plain (by kernel_rfl)
end Go.Proofs.YtminodinhbcgnaaDoor
