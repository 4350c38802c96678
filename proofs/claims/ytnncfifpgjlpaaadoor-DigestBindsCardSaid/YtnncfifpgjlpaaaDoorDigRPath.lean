/-
  The contract of the specification's Path. Condition: at most 1000 strings of at most 1000 bytes.
-/
import Derived.Test.YtnncfifpgjlpaaaDoorDigPath
set_option linter.unusedVariables false
set_option linter.unusedSimpArgs false
set_option linter.unnecessarySimpa false
namespace Go.Proofs.YtnncfifpgjlpaaaDoor
open Go.RowKit Go.PlainAid

set_option maxRecDepth 100000 in
set_option maxHeartbeats 4000000 in
theorem rpath_s (ao : Option Addr) (n cap : Nat) (ps : List ByteArray) (i : Nat) (w : World) (h : StrsAt w ao n cap ps) (hn : n ≤ 1000) (hp : ∀ j, j < n → (partAt ps j).size ≤ 1000) (hi : i < n) :
    Calls Tryd.prog 28 #[.slice ao n cap, .int .i64 i] w fun e w' => (∃ bo dap, e = .returned (.tuple #[.slice bo (pathL (ps.map leafS) i).length dap, .int .i64 0]) ∧ StrsAt w' bo (pathL (ps.map leafS) i).length dap (pathL (ps.map leafS) i)) ∧ Below w.heap.size w w' := by
  have H := Lib.hid h
  have hcn := h.2.1
  have hcm := h.2.2.1
  obtain rfl := h.1
  unfold maxLen at hcm
  clear h
  have HP := Lib.hid hp; clear hp
  obtain ⟨P, HPP⟩ : ∃ P, Hid (pathL (ps.map leafS) i = P) := ⟨_, Lib.hid rfl⟩
  rw [HPP.out]
  have hl0 : (ps.map leafS).length = ps.length := List.length_map _
  have d1 : decide ((i : Int) < 0) = false := decide_eq_false (by omega)
  have d2 : decide ((ps.length : Int) ≤ (i : Int)) = false := decide_eq_false (by omega)
  go_enter Tryd.func28, Tryd.ntmps28
  go_wp2_with (go_at_call 42; refine (rleaves_s _ _ _ ps _ H.out hn HP.out).mono ?_; rintro e w1 ⟨⟨bo, dap, rfl, hat⟩, hb1⟩)
  clear d1 d2
  go_loopw [1, 6, 7] (fun iv pv v wr => ∃ (k : Nat) (out : List ByteArray) (bo : Option Addr) (m dap : Nat) (lv : List ByteArray), iv = .int .i64 k ∧ v = .slice bo m dap ∧ m ≤ 1000 ∧ k < m ∧ out.length + m ≤ 1000 ∧
      wr.ownsRow w.heap.size 9 1 pv out.length (scells out) ∧ Hid (StrsAt wr bo m dap lv) ∧ Hid (∀ j, j < lv.length → (partAt lv j).size ≤ 1000) ∧ Hid (P = out ++ pathL lv k) ∧ Hid (∀ b off, bo = some ⟨b, off, none⟩ → pv.ownBlock ≠ some b) ∧ Below w.heap.size w wr)
    (fun _ _ v _ => slLen v)
  case atStart => exact ⟨i, [], bo, _, dap, _, rfl, rfl, hn, hi, by simp; omega, World.ownsRow_nil _ _ _ _, Lib.hid hat, Lib.hid (leaf_fine ps), Lib.hid HPP.out.symm, Lib.hid (fun b off _ e => by cases e), hb1⟩
  case round =>
    obtain ⟨k, out, co, m, eap, lv, rfl, rfl, hm, hkm, hom, hown, HL, HF, HT, HD, hbel⟩ := hrel
    have hlm := HL.out.1
    by_cases h1 : 1 < m
    · have HUL := Lib.hid (upL_len lv)
      have HU := Lib.hid (pathL_up lv k (by omega))
      by_cases hod : k % 2 = 1
      · have HN := Lib.hid (show P = (out ++ [partAt lv (k - 1)]) ++ pathL (upL lv) (k / 2) by rw [HT.out, HU.out, show mate k = k - 1 by unfold mate; rw [if_neg (by omega)], if_pos (by omega)]; simp)
        obtain ⟨b, off, rfl, hbw, hcells⟩ := HL.out.at (by omega)
        have hc := hcells _ (Below.refl _ _) (k - 1) (by omega)
        obtain ⟨p, hpe⟩ : ∃ p, p = partAt lv (k - 1) := ⟨_, rfl⟩
        rw [← hpe] at hc HN
        clear hpe hcells hbw
        have hsn := scells_snoc out p
        have k1 : (1 : Int) ≤ (k : Int) := by omega
        have k0 : 1 ≤ k := by omega
        have d5 : ((k : Int) % 2 == 1) = true := by rw [beq_iff_eq]; omega
        go_wp2_with (first
          | (at_builtin; go_must (refine push_lies _ hown (.tmp 24) (.tmp 30) _ ?_ ?_ ?_ ?_ ?_ ?_ ?_; exact rfl; exact rfl; exact rfl; exact rfl; omega; exact hbel.size; intro g3 c3 w3 hown3 hb3 HK3))
          | (go_at_call 43; have HL3 := Lib.hid (HL.out.keep hb3.size (fun b' off' e' hb' => HK3.out b' hb' (HD.out b' off' e'))); refine (up_s _ _ _ lv _ HL3.out hm HF.out).mono ?_; rintro e w4 ⟨⟨bo4, dap4, rfl, hat4, hfr4⟩, hb4⟩))
        rw [← hsn] at hown3
        have hown4 := own_below hown3 hb4
        have hglt := (hown3.lt g3 rfl).2
        have HLEN : Hid ((out ++ [p]).length = out.length + 1) := Lib.hid (by simp)
        go_roundw
        case rel =>
          refine ⟨k / 2, out ++ [p], bo4, _, dap4, _, by go_num, rfl, ?_, ?_, ?_, by rw [HLEN.out]; exact hown4, Lib.hid hat4, Lib.hid (up_fine HF.out), HN, Lib.hid ?_, (hbel.trans hb3).trans (hb4.mono (Nat.le_trans hbel.size hb3.size))⟩
          · have := HUL.out; omega
          · have := HUL.out; omega
          · have := HUL.out; rw [HLEN.out]; omega
          · intro b' off' e' e2
            have h3 := hfr4 b' off' e'
            have h4 : g3 = b' := Option.some.inj e2
            omega
        case measure => have := HUL.out; show (upL lv).length < m; omega
      · have d5 : ((k : Int) % 2 == 1) = false := by rw [beq_eq_false_iff_ne]; omega
        by_cases h2 : k + 1 < m
        · have HN := Lib.hid (show P = (out ++ [partAt lv (k + 1)]) ++ pathL (upL lv) (k / 2) by rw [HT.out, HU.out, show mate k = k + 1 by unfold mate; rw [if_pos (by omega)], if_pos (by omega)]; simp)
          obtain ⟨b, off, rfl, hbw, hcells⟩ := HL.out.at (by omega)
          have hc := hcells _ (Below.refl _ _) (k + 1) (by omega)
          obtain ⟨p, hpe⟩ : ∃ p, p = partAt lv (k + 1) := ⟨_, rfl⟩
          rw [← hpe] at hc HN
          clear hpe hcells hbw
          have hsn := scells_snoc out p
          have k1 : (k : Int) + 1 < (m : Int) := by omega
          go_wp2_with (first
            | (at_builtin; go_must (refine push_lies _ hown (.tmp 37) (.tmp 43) _ ?_ ?_ ?_ ?_ ?_ ?_ ?_; exact rfl; exact rfl; exact rfl; exact rfl; omega; exact hbel.size; intro g3 c3 w3 hown3 hb3 HK3))
            | (go_at_call 43; have HL3 := Lib.hid (HL.out.keep hb3.size (fun b' off' e' hb' => HK3.out b' hb' (HD.out b' off' e'))); refine (up_s _ _ _ lv _ HL3.out hm HF.out).mono ?_; rintro e w4 ⟨⟨bo4, dap4, rfl, hat4, hfr4⟩, hb4⟩))
          rw [← hsn] at hown3
          have hown4 := own_below hown3 hb4
          have hglt := (hown3.lt g3 rfl).2
          have HLEN : Hid ((out ++ [p]).length = out.length + 1) := Lib.hid (by simp)
          go_roundw
          case rel =>
            refine ⟨k / 2, out ++ [p], bo4, _, dap4, _, by go_num, rfl, ?_, ?_, ?_, by rw [HLEN.out]; exact hown4, Lib.hid hat4, Lib.hid (up_fine HF.out), HN, Lib.hid ?_, (hbel.trans hb3).trans (hb4.mono (Nat.le_trans hbel.size hb3.size))⟩
            · have := HUL.out; omega
            · have := HUL.out; omega
            · have := HUL.out; rw [HLEN.out]; omega
            · intro b' off' e' e2
              have h3 := hfr4 b' off' e'
              have h4 : g3 = b' := Option.some.inj e2
              omega
          case measure => have := HUL.out; show (upL lv).length < m; omega
        · have HN := Lib.hid (show P = out ++ pathL (upL lv) (k / 2) by rw [HT.out, HU.out, show mate k = k + 1 by unfold mate; rw [if_pos (by omega)], if_neg (by omega)]; simp)
          go_wp2_with (go_at_call 43; refine (up_s _ _ _ lv _ HL.out hm HF.out).mono ?_; rintro e w4 ⟨⟨bo4, dap4, rfl, hat4, hfr4⟩, hb4⟩)
          have hown4 := own_below hown hb4
          have HLT := Lib.hid (fun b => (hown.lt b))
          go_roundw
          case rel =>
            refine ⟨k / 2, out, bo4, _, dap4, _, by go_num, rfl, ?_, ?_, ?_, hown4, Lib.hid hat4, Lib.hid (up_fine HF.out), HN, Lib.hid ?_, hbel.trans (hb4.mono hbel.size)⟩
            · have := HUL.out; omega
            · have := HUL.out; omega
            · have := HUL.out; omega
            · intro b' off' e' e2
              have h3 := hfr4 b' off' e'
              have h4 := HLT.out b' e2
              omega
          case measure => have := HUL.out; show (upL lv).length < m; omega
    · have HX := Lib.hid (show P = out by rw [HT.out, pathL_one lv k (by omega), List.append_nil])
      obtain ⟨bo5, dap5, rfl, hat5⟩ := strs_own hown rfl
      rw [← HX.out] at hat5 ⊢
      go_wp2
      go_ret2
      exact ⟨⟨_, _, rfl, hat5⟩, hbel⟩

end Go.Proofs.YtnncfifpgjlpaaaDoor
