/-
  The contract of the specification's Format. Condition: at most 1000 pairs of strings of at most 1000000 bytes.
-/
import Derived.Test.YtdjhhofmlefaaaaDoorNamF
set_option linter.unusedVariables false
set_option linter.unusedSimpArgs false
set_option linter.unnecessarySimpa false
namespace Go.Proofs.YtdjhhofmlefaaaaDoor
open Go.RowKit Go.PlainAid

/-- 'b = append(b, s...)' where b is the call's own -/
theorem push_all {ops : Array Oper} {rest : List Oper} {o : Oper} {a : Act} {Q : Exit → Act → World → Prop} (wr : World) {base : Nat} {v : Value} {n : Nat} {xs : List Value} (hown : wr.ownsRow base 5 1 v n xs) (s x : Operand)
    (t : ByteArray) (hgd : o.guard = none)
    (ho : o.op = .call { callee := .builtin .append, args := #[s, x], argTypes := #[52, 9] })
    (hs : a.eval s = v) (hx : a.eval x = .string t) (hn : n + t.size ≤ 140737488355328) (hbase : base ≤ wr.heap.size)
    (h : ∀ v' w', w'.ownsRow base 5 1 v' (n + t.size) (xs ++ bcells t.data.toList) → Below base wr w' → wpList Tryd.prog ops Q rest (a.put o.dst v') w') :
    wpList Tryd.prog ops Q (o :: rest) a wr := by
  obtain ⟨i0, hi, hz0, hz1, hz2⟩ := info_parts info5
  refine Lib.wpList_append_own_string wr hgd s x 52 9 ho base 5 i0 Tryd.underlying52 Tryd.underlying9 hi hz0 hz1 hz2 v n xs hs hown t hx (by unfold maxLen; omega) (by omega) (by omega) ?_
  intro v' w' h1 h2 _
  refine h v' w' (by rw [← strCells_b]; exact h1) ?_
  exact (Below.refl base wr).grown h2 hbase (fun k hk => (hown.lt k hk).1)
theorem bcells_one' (c : UInt8) : bcells [c] = [.int .u8 (c.toNat : Int)] := rfl

set_option maxRecDepth 100000 in
set_option maxHeartbeats 8000000 in
theorem rformat_s (ao : Option Addr) (n cap : Nat) (l : List Pr) (w : World) (h : PairsAt w ao n cap l) (hsm : Small l) :
    Calls Tryd.prog 18 #[.slice ao n cap] w fun e w' => e = .returned (.tuple #[.string (fmtV l), .int .i64 (fmtE l)]) ∧ Below w.heap.size w w' := by
  obtain ⟨h1, h2, h3, h4⟩ := h
  subst h1
  have HS := Lib.hid hsm
  have hl0 := hsm.1
  clear hsm
  have H4 := Lib.hid h4; clear h4
  go_enter Tryd.func18, Tryd.ntmps18
  go_wp2
  go_loopw [4, 5] (fun bv i wr => ∃ k : Nat, k ≤ l.length ∧ i = .int .i64 k ∧ wr.ownsRow w.heap.size 5 1 bv (fmtK l k).length (bcells (fmtK l k)) ∧ Below w.heap.size w wr ∧ Hid (fmtFirst (l.take k) = 0))
    (fun _ i _ => l.length - (intOf i).toNat)
  case atStart => exact ⟨0, Nat.zero_le _, rfl, World.ownsRow_nil _ _ _ _, Below.refl _ _, Lib.hid rfl⟩
  case round =>
    obtain ⟨k, hk, rfl, hown, hbel, HF⟩ := hrel
    have hln := fmtK_len HS.out k
    by_cases hlt : k < l.length
    · obtain ⟨b, off, rfl, hs⟩ := H4.out (by omega)
      have HC := Lib.hid (show ∀ w', Below w.heap.size w w' → w'.cell? ⟨b, off + k * 2, none⟩ = some (.string (prAt l k).1) ∧ w'.cell? ⟨b, off + k * 2 + 1, none⟩ = some (.string (prAt l k).2) from fun w' hb => (hs.below hb hs.1).2 k hlt)
      obtain ⟨hpk, hpv⟩ := HS.out.2 k hlt
      have HST := Lib.hid (fmtFirst_step HF.out hlt)
      have HK1 := Lib.hid (fun (_ : k = 0) => fmtK_first l (by omega))
      have HK2 := Lib.hid (fun (h0 : 0 < k) => fmtK_next l k hlt h0)
      obtain ⟨⟨p, q⟩, hpe⟩ : ∃ p, p = prAt l k := ⟨_, rfl⟩
      have HPE := Lib.hid hpe
      rw [← hpe] at HC hpk hpv HST HK2
      simp only [] at HC hpk hpv
      clear hs hpe
      have hfz := foldS_size q
      have hlz := lowS_size p
      obtain ⟨hc1, hc2⟩ := HC.out _ hbel
      cases n1 : nameB p
      · have HFN := Lib.hid (show fmtE l = 5 ∧ fmtV l = ByteArray.empty by
          have hp1 : prE (p, q) = 5 := by unfold prE; rw [if_pos n1]
          have := HST.out.2 (by rw [hp1]; decide)
          rw [hp1] at this; exact this)
        clear hc2
        go_wp2_with (go_at_call 46; refine (rName_s p _ (by omega)).mono ?_; rintro e w' ⟨rfl, rfl⟩; rw [n1])
        go_ret2
        exact ⟨by rw [HFN.out.1, HFN.out.2]; rfl, hbel⟩
      · cases n2 : cleanB q
        · have HFN := Lib.hid (show fmtE l = 8 ∧ fmtV l = ByteArray.empty by
            have hp1 : prE (p, q) = 8 := by unfold prE; simp only []; rw [if_neg (by rw [n1]; decide), if_pos n2]
            have := HST.out.2 (by rw [hp1]; decide)
            rw [hp1] at this; exact this)
          go_wp2_with (first
            | (go_at_call 46; refine (rName_s p _ (by omega)).mono ?_; rintro e w' ⟨rfl, rfl⟩; rw [n1])
            | (go_at_call 47; refine (rClean_s q _ (by omega)).mono ?_; rintro e w' ⟨rfl, rfl⟩; rw [n2]))
          go_ret2
          exact ⟨by rw [HFN.out.1, HFN.out.2]; rfl, hbel⟩
        · have HFN := Lib.hid (HST.out.1 (by unfold prE; simp only []; rw [if_neg (by rw [n1]; decide), if_neg (by rw [n2]; decide)]))
          clear HST
          by_cases hk0 : k = 0
          · skip
            have HK := Lib.hid (show fmtK l (k + 1) = fmtK l k ++ (lowS p).data.toList ++ [61] ++ (escS (foldS q)).data.toList by
              have := HK1.out hk0
              subst hk0
              rw [← HPE.out] at this
              exact this)
            have hd0 : decide (0 < k) = false := by simp; omega
            clear hk0 HK1 HK2
            obtain ⟨pre0, hpre0⟩ : ∃ x, x = fmtK l k := ⟨_, rfl⟩
            rw [← hpre0] at hown hln HK
            have HP0 := Lib.hid hpre0; clear hpre0
            have own0 := hown
            have L0 := hbel
            go_wp2_with (first
              | (go_at_call 46; refine (rName_s p _ (by omega)).mono ?_; rintro e w' ⟨rfl, rfl⟩; rw [n1])
              | (go_at_call 47; refine (rClean_s q _ (by omega)).mono ?_; rintro e w' ⟨rfl, rfl⟩; rw [n2])
              | (go_at_call 48; refine (rLower_s p _ (by omega)).mono ?_; rintro e w1 ⟨rfl, hb1⟩; have L1 := L0.trans (hb1.mono L0.size); have own1 := own_below own0 hb1)
              | (at_builtin; refine push_all _ own1 (.tmp 33) (.tmp 39) (lowS p) ?_ ?_ ?_ ?_ ?_ ?_ ?_; exact rfl; exact rfl; exact rfl; exact rfl; omega; exact L1.size; intro v2 w2 own2 hb2; have L2 := L1.trans hb2)
              | (at_builtin; refine push_byte _ own2 (.tmp 41) (.tmp 42) _ ?_ ?_ ?_ ?_ ?_ ?_ ?_; exact rfl; exact rfl; exact rfl; exact rfl; omega; exact L2.size; intro v3 w3 own3 hb3; have L3 := L2.trans hb3; clear hc1 hc2; obtain ⟨hc1, hc2⟩ := HC.out _ L3)
              | (go_at_call 49; refine (rFold_s q _ (by omega)).mono ?_; rintro e w4 ⟨rfl, hb4⟩; have L4 := L3.trans (hb4.mono L3.size); have own4 := own_below own3 hb4))
            obtain ⟨t, htt⟩ : ∃ t, t = foldS q := ⟨_, rfl⟩
            rw [← htt] at hfz ⊢
            have HTT := Lib.hid htt; clear htt
            rw [← HTT.out] at HK
            have hbt := get_bt t
            have hlow : (lowS p).data.toList.length = (lowS p).size := (Lib.size_eq _).symm
            obtain ⟨pre, hpre⟩ : ∃ x, x = pre0 ++ (lowS p).data.toList ++ [61] := ⟨_, rfl⟩
            have hpl : pre0.length + (lowS p).size + 1 = pre.length := by rw [hpre]; simp only [List.length_append, List.length_cons, List.length_nil, hlow]
            have own5 : w4.ownsRow w.heap.size 5 1 v3 pre.length (bcells pre) := by
              rw [hpl] at own4
              have e : bcells pre = bcells pre0 ++ bcells (lowS p).data.toList ++ [.int .u8 61] := by rw [hpre, bcells_append, bcells_append]; rfl
              rw [e]; exact own4
            rw [← hpre] at HK
            have HPR := Lib.hid hpre; clear hpre own4 own3 own2 own1 own0 hown hc1 hc2
            clear HC
            go_loopw [4, 7] (fun bv i wx => ∃ j : Nat, j ≤ t.size ∧ i = .int .i64 j ∧ wx.ownsRow w.heap.size 5 1 bv (pre ++ escV (t.data.toList.take j)).length (bcells (pre ++ escV (t.data.toList.take j))) ∧ Below w.heap.size w wx)
              (fun _ i _ => t.size - (intOf i).toNat)
            case atStart => exact ⟨0, Nat.zero_le _, rfl, by simpa [escV] using own5, L4⟩
            case round =>
              obtain ⟨j, hj, rfl, ownx, Lx⟩ := hrel
              clear own5
              have hl3 := escV_len (t.data.toList.take j)
              have hl4 : (t.data.toList.take j).length ≤ j := List.length_take_le _ _
              have hl5 : (pre ++ escV (t.data.toList.take j)).length ≤ 100000000000 := by rw [List.length_append]; omega
              by_cases hjt : j < t.size
              · have HSTE := Lib.hid (escV_step t j hjt)
                have HCC := Lib.hid (bt_chr t j)
                obtain ⟨cur, hcur⟩ : ∃ x, x = pre ++ escV (t.data.toList.take j) := ⟨_, rfl⟩
                rw [← hcur] at ownx hl5
                have HCU := Lib.hid hcur; clear hcur
                cases c1 : spec4 (chr t j)
                · have HEND := Lib.hid (show pre ++ escV (t.data.toList.take (j + 1)) = cur ++ [chr t j] by rw [HCU.out, HSTE.out]; unfold escB; rw [c1]; simp)
                  go_wp2_with (first
                    | (go_at_call 50; refine (special_s _ (chr t j) _ HCC.out).mono ?_; rintro e w' ⟨rfl, rfl⟩; rw [c1])
                    | (at_builtin; refine push_byte _ ownx (.tmp 63) (.tmp 67) _ ?_ ?_ ?_ ?_ ?_ ?_ ?_; exact rfl; exact rfl; exact rfl; exact rfl; omega; exact Lx.size; intro v6 w6 own6 hb6))
                  go_roundw
                  case rel => exact ⟨j + 1, by omega, by go_num, by rw [HEND.out, List.length_append, bcells_append, bcells_one']; rw [HCC.out] at own6; exact own6, Lx.trans hb6⟩
                  case measure => simp [intOf]; omega
                · have HEND := Lib.hid (show pre ++ escV (t.data.toList.take (j + 1)) = (cur ++ [92]) ++ [chr t j] by rw [HCU.out, HSTE.out]; unfold escB; rw [c1]; simp)
                  go_wp2_with (first
                    | (go_at_call 50; refine (special_s _ (chr t j) _ HCC.out).mono ?_; rintro e w' ⟨rfl, rfl⟩; rw [c1])
                    | (at_builtin; refine push_byte _ ownx (.tmp 60) (.tmp 61) _ ?_ ?_ ?_ ?_ ?_ ?_ ?_; exact rfl; exact rfl; exact rfl; exact rfl; omega; exact Lx.size; intro v5 w5 own5 hb5; have L5 := Lx.trans hb5)
                    | (at_builtin; refine push_byte _ own5 (.tmp 63) (.tmp 67) _ ?_ ?_ ?_ ?_ ?_ ?_ ?_; exact rfl; exact rfl; exact rfl; exact rfl; omega; exact L5.size; intro v6 w6 own6 hb6))
                  go_roundw
                  case rel => exact ⟨j + 1, by omega, by go_num, by rw [HEND.out, List.length_append, List.length_append, bcells_append, bcells_append, bcells_one', bcells_one']; rw [HCC.out] at own6; exact own6, L5.trans hb6⟩
                  case measure => simp [intOf]; omega
              · have HT := Lib.hid (show fmtK l (k + 1) = pre ++ escV (t.data.toList.take j) by
                  rw [HK.out, List.take_of_length_le (show t.data.toList.length ≤ j by rw [← Lib.size_eq]; omega)]; rfl)
                rw [← HT.out] at ownx
                go_wp2
                go_roundw
                case rel => exact ⟨k + 1, by omega, by go_num, ownx, Lx, HFN⟩
                case measure => simp [intOf]; omega
          · skip
            have HK := Lib.hid (HK2.out (by omega))
            have hd0 : decide (0 < k) = true := by simp; omega
            clear hk0 HK1 HK2
            obtain ⟨preA, hpreA⟩ : ∃ x, x = fmtK l k := ⟨_, rfl⟩
            rw [← hpreA] at hown hln HK
            have HPA := Lib.hid hpreA; clear hpreA
            go_wp2_with (first
              | (go_at_call 46; refine (rName_s p _ (by omega)).mono ?_; rintro e w' ⟨rfl, rfl⟩; rw [n1])
              | (go_at_call 47; refine (rClean_s q _ (by omega)).mono ?_; rintro e w' ⟨rfl, rfl⟩; rw [n2])
              | (at_builtin; refine push_byte _ hown (.tmp 30) (.tmp 31) _ ?_ ?_ ?_ ?_ ?_ ?_ ?_; exact rfl; exact rfl; exact rfl; exact rfl; omega; exact hbel.size; intro v0 w0 own0 hb0; have L0 := hbel.trans hb0; clear hc1 hc2; obtain ⟨hc1, hc2⟩ := HC.out _ L0)
              | (go_at_call 48; refine (rLower_s p _ (by omega)).mono ?_; rintro e w1 ⟨rfl, hb1⟩; have L1 := L0.trans (hb1.mono L0.size); have own1 := own_below own0 hb1)
              | (at_builtin; refine push_all _ own1 (.tmp 33) (.tmp 39) (lowS p) ?_ ?_ ?_ ?_ ?_ ?_ ?_; exact rfl; exact rfl; exact rfl; exact rfl; omega; exact L1.size; intro v2 w2 own2 hb2; have L2 := L1.trans hb2)
              | (at_builtin; refine push_byte _ own2 (.tmp 41) (.tmp 42) _ ?_ ?_ ?_ ?_ ?_ ?_ ?_; exact rfl; exact rfl; exact rfl; exact rfl; omega; exact L2.size; intro v3 w3 own3 hb3; have L3 := L2.trans hb3; clear hc1 hc2; obtain ⟨hc1, hc2⟩ := HC.out _ L3)
              | (go_at_call 49; refine (rFold_s q _ (by omega)).mono ?_; rintro e w4 ⟨rfl, hb4⟩; have L4 := L3.trans (hb4.mono L3.size); have own4 := own_below own3 hb4))
            obtain ⟨t, htt⟩ : ∃ t, t = foldS q := ⟨_, rfl⟩
            rw [← htt] at hfz ⊢
            have HTT := Lib.hid htt; clear htt
            rw [← HTT.out] at HK
            have hbt := get_bt t
            have hlow : (lowS p).data.toList.length = (lowS p).size := (Lib.size_eq _).symm
            obtain ⟨pre, hpre⟩ : ∃ x, x = preA ++ [44] ++ (lowS p).data.toList ++ [61] := ⟨_, rfl⟩
            have hpl : (preA.length + 1) + (lowS p).size + 1 = pre.length := by rw [hpre]; simp only [List.length_append, List.length_cons, List.length_nil, hlow]
            have own5 : w4.ownsRow w.heap.size 5 1 v3 pre.length (bcells pre) := by
              rw [hpl] at own4
              have e : bcells pre = bcells preA ++ [.int .u8 44] ++ bcells (lowS p).data.toList ++ [.int .u8 61] := by rw [hpre, bcells_append, bcells_append, bcells_append]; rfl
              rw [e]; exact own4
            rw [← hpre] at HK
            have HPR := Lib.hid hpre; clear hpre own4 own3 own2 own1 own0 hown hc1 hc2
            clear HC
            go_loopw [4, 7] (fun bv i wx => ∃ j : Nat, j ≤ t.size ∧ i = .int .i64 j ∧ wx.ownsRow w.heap.size 5 1 bv (pre ++ escV (t.data.toList.take j)).length (bcells (pre ++ escV (t.data.toList.take j))) ∧ Below w.heap.size w wx)
              (fun _ i _ => t.size - (intOf i).toNat)
            case atStart => exact ⟨0, Nat.zero_le _, rfl, by simpa [escV] using own5, L4⟩
            case round =>
              obtain ⟨j, hj, rfl, ownx, Lx⟩ := hrel
              clear own5
              have hl3 := escV_len (t.data.toList.take j)
              have hl4 : (t.data.toList.take j).length ≤ j := List.length_take_le _ _
              have hl5 : (pre ++ escV (t.data.toList.take j)).length ≤ 100000000000 := by rw [List.length_append]; omega
              by_cases hjt : j < t.size
              · have HSTE := Lib.hid (escV_step t j hjt)
                have HCC := Lib.hid (bt_chr t j)
                obtain ⟨cur, hcur⟩ : ∃ x, x = pre ++ escV (t.data.toList.take j) := ⟨_, rfl⟩
                rw [← hcur] at ownx hl5
                have HCU := Lib.hid hcur; clear hcur
                cases c1 : spec4 (chr t j)
                · have HEND := Lib.hid (show pre ++ escV (t.data.toList.take (j + 1)) = cur ++ [chr t j] by rw [HCU.out, HSTE.out]; unfold escB; rw [c1]; simp)
                  go_wp2_with (first
                    | (go_at_call 50; refine (special_s _ (chr t j) _ HCC.out).mono ?_; rintro e w' ⟨rfl, rfl⟩; rw [c1])
                    | (at_builtin; refine push_byte _ ownx (.tmp 63) (.tmp 67) _ ?_ ?_ ?_ ?_ ?_ ?_ ?_; exact rfl; exact rfl; exact rfl; exact rfl; omega; exact Lx.size; intro v6 w6 own6 hb6))
                  go_roundw
                  case rel => exact ⟨j + 1, by omega, by go_num, by rw [HEND.out, List.length_append, bcells_append, bcells_one']; rw [HCC.out] at own6; exact own6, Lx.trans hb6⟩
                  case measure => simp [intOf]; omega
                · have HEND := Lib.hid (show pre ++ escV (t.data.toList.take (j + 1)) = (cur ++ [92]) ++ [chr t j] by rw [HCU.out, HSTE.out]; unfold escB; rw [c1]; simp)
                  go_wp2_with (first
                    | (go_at_call 50; refine (special_s _ (chr t j) _ HCC.out).mono ?_; rintro e w' ⟨rfl, rfl⟩; rw [c1])
                    | (at_builtin; refine push_byte _ ownx (.tmp 60) (.tmp 61) _ ?_ ?_ ?_ ?_ ?_ ?_ ?_; exact rfl; exact rfl; exact rfl; exact rfl; omega; exact Lx.size; intro v5 w5 own5 hb5; have L5 := Lx.trans hb5)
                    | (at_builtin; refine push_byte _ own5 (.tmp 63) (.tmp 67) _ ?_ ?_ ?_ ?_ ?_ ?_ ?_; exact rfl; exact rfl; exact rfl; exact rfl; omega; exact L5.size; intro v6 w6 own6 hb6))
                  go_roundw
                  case rel => exact ⟨j + 1, by omega, by go_num, by rw [HEND.out, List.length_append, List.length_append, bcells_append, bcells_append, bcells_one', bcells_one']; rw [HCC.out] at own6; exact own6, L5.trans hb6⟩
                  case measure => simp [intOf]; omega
              · have HT := Lib.hid (show fmtK l (k + 1) = pre ++ escV (t.data.toList.take j) by
                  rw [HK.out, List.take_of_length_le (show t.data.toList.length ≤ j by rw [← Lib.size_eq]; omega)]; rfl)
                rw [← HT.out] at ownx
                go_wp2
                go_roundw
                case rel => exact ⟨k + 1, by omega, by go_num, ownx, Lx, HFN⟩
                case measure => simp [intOf]; omega
    · have HT := Lib.hid (show k = l.length by omega)
      rw [HT.out] at hown HF
      by_cases h8 : 8 < l.length
      · have HE := Lib.hid ((fmt_end HF.out).1 h8)
        have hd8 : decide ((8 : Int) < (l.length : Int)) = true := decide_eq_true (by omega)
        go_wp2
        go_ret2
        exact ⟨by rw [HE.out.1, HE.out.2]; rfl, hbel⟩
      · have HE := Lib.hid ((fmt_end HF.out).2 h8)
        have hd8 : decide ((8 : Int) < (l.length : Int)) = false := decide_eq_false (by omega)
        have hbk := back hown
        go_wp2
        go_ret2
        exact ⟨by rw [HE.out.1, HE.out.2]; rfl, hbel⟩

end Go.Proofs.YtdjhhofmlefaaaaDoor
