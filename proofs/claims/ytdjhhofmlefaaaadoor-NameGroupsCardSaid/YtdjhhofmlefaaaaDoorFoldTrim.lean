/-
  Contracts of the specification's Trim, of fold.squeeze and of the specification's Fold. Condition: at most 1000000000 bytes.
-/
import Derived.Test.YtdjhhofmlefaaaaDoorFoldLow
import Derived.Test.YtdjhhofmlefaaaaDoorFoldB
set_option linter.unusedVariables false
set_option linter.unusedSimpArgs false
set_option linter.unnecessarySimpa false
namespace Go.Proofs.YtdjhhofmlefaaaaDoor
open Go.RowKit Go.PlainAid

set_option maxRecDepth 100000 in
set_option maxHeartbeats 1000000 in
theorem rTrim_any (s : ByteArray) (w : World) (hs : s.size ≤ 1000000000) :
    Calls Tryd.prog 63 #[.string s] w fun e w' => e = .returned (.string ⟨(trimR s.data.toList).toArray⟩) ∧ w' = w := by
  go_enter Tryd.func63, Tryd.ntmps63
  go_wp2
  go_loop [0] (fun v => ∃ k : Nat, k ≤ s.size ∧ v = .string (dr s k) ∧ Hid (∀ j, j < k → bt s j = 32)) (fun v => Lib.strSize v)
  case atStart => exact ⟨0, Nat.zero_le _, by rw [dr_zero], Lib.hid fun j hj => absurd hj (Nat.not_lt_zero _)⟩
  case round =>
    obtain ⟨k, hk, rfl, H1⟩ := hrel
    have HN := Lib.hid (dr_next s k)
    have hz := dr_size s k
    have hb0 := bt_dr s k 0
    generalize ht : dr s k = t at hz hb0 HN ⊢
    have HT := Lib.hid ht; clear ht
    have HZ := Lib.hid hz; clear hz
    have HB := Lib.hid hb0; clear hb0
    have hb := get_bt t
    have hex : (0 < t.size ∧ (bt t 0 == 32) = true) ∨ (Hid (Lib.trimLeftB s.data.toList 32 = t.data.toList) ∧ ((0 < t.size ∧ (bt t 0 == 32) = false) ∨ ¬ 0 < t.size)) := by
      have h1 := HZ.out
      have h2 := HB.out
      by_cases h0 : 0 < t.size
      · by_cases hq : bt t 0 = 32
        · exact .inl ⟨h0, by simp [hq]⟩
        · refine .inr ⟨?_, .inl ⟨h0, by simp [hq]⟩⟩
          have := left_stop s k hk H1.out (fun _ => by rw [h2, Nat.add_zero] at hq; exact hq)
          rw [this, HT.out]; rfl
      · refine .inr ⟨?_, .inr h0⟩
        have := left_stop s k hk H1.out (fun h => absurd h (by omega))
        rw [this, HT.out]; rfl
    rcases hex with ⟨h0, hq⟩ | ⟨HL, hex⟩
    · go_wp2
      refine ⟨⟨k + 1, ?_, ?_, ?_⟩, ?_⟩
      · have := HZ.out; omega
      · rw [HN.out]
      · refine Lib.hid fun j hj => ?_
        by_cases e : j = k
        · have h2 := HB.out
          subst e
          rw [Nat.add_zero] at h2
          rw [← h2]; simpa using hq
        · exact H1.out j (by omega)
      · rw [Lib.strSize_string, Lib.strSize_string, HN.out, dr_size]
        have := HZ.out; omega
    · clear HN HT HB H1
      have hts : t.size ≤ 1000000000 := by have := HZ.out; omega
      clear HZ hs
      rcases hex with ⟨h0, hq⟩ | h0
      all_goals
        go_wp2
        clear h0
        go_loop [0] (fun v => ∃ m : Nat, m ≤ t.size ∧ v = .string (tk t m) ∧ Hid (∀ j, m ≤ j → j < t.size → bt t j = 32)) (fun v => Lib.strSize v)
        case atStart => exact ⟨t.size, Nat.le_refl _, by rw [tk_all], Lib.hid fun j h1 h2 => absurd h1 (by omega)⟩
        case round =>
          obtain ⟨m, hm, rfl, H2⟩ := hrel
          have HN := Lib.hid (tk_next t m)
          have hz := tk_size t m hm
          have HB := Lib.hid (fun (h : 0 < m) => bt_tk t m (m - 1) (by omega))
          generalize hu : tk t m = u at hz HN HB ⊢
          have HU := Lib.hid hu; clear hu
          have hbu := get_bt u
          clear hb
          have hex : (0 < m ∧ (bt u (m - 1) == 32) = true) ∨ (Hid (trimR s.data.toList = u.data.toList) ∧ ((0 < m ∧ (bt u (m - 1) == 32) = false) ∨ m = 0)) := by
            by_cases h0 : 0 < m
            · by_cases hq : bt u (m - 1) = 32
              · exact .inl ⟨h0, by simp [hq]⟩
              · refine .inr ⟨?_, .inl ⟨h0, by simp [hq]⟩⟩
                have := right_stop t m hm H2.out (fun h => by rw [HB.out h] at hq; exact hq)
                unfold Hid trimR
                rw [HL.out, this, HU.out]
            · refine .inr ⟨?_, .inr (by omega)⟩
              have := right_stop t m hm H2.out (fun h => absurd h h0)
              unfold Hid trimR
              rw [HL.out, this, HU.out]
          rcases hex with ⟨h0, hq⟩ | ⟨HR, ⟨h0, hq⟩ | h0⟩
          · have hsub : IntKind.i64.wrap ((m : Int) - 1) = ((m - 1 : Nat) : Int) := by rw [IntWalk.i64_in _ ⟨by omega, by omega⟩]; omega
            go_wp2
            refine ⟨⟨m - 1, by omega, by rw [HN.out], Lib.hid fun j h1 h2 => ?_⟩, ?_⟩
            · by_cases e : j = m - 1
              · have h3 := HB.out h0
                subst e
                rw [← h3]; simpa using hq
              · exact H2.out j (by omega) h2
            · rw [Lib.strSize_string, Lib.strSize_string, HN.out, tk_size t (m - 1) (by omega), hz]
              omega
          · have hsub : IntKind.i64.wrap ((m : Int) - 1) = ((m - 1 : Nat) : Int) := by rw [IntWalk.i64_in _ ⟨by omega, by omega⟩]; omega
            go_wp2
            go_ret
            exact ⟨by rw [HR.out, Lib.mk_data]; rfl, rfl⟩
          · subst h0
            go_wp2
            go_ret
            exact ⟨by rw [HR.out, Lib.mk_data]; rfl, rfl⟩

theorem trimR_le (l : List UInt8) : (trimR l).length ≤ l.length := by
  have h1 : (Lib.trimLeftB l 32).length ≤ l.length := (List.dropWhile_sublist _).length_le
  have h2 : ∀ m : List UInt8, (Lib.trimRightB m 32).length ≤ m.length := fun m => by
    unfold Lib.trimRightB
    rw [List.length_reverse]
    have := (List.dropWhile_sublist (fun x : UInt8 => x == 32) (l := m.reverse)).length_le
    simpa using this
  exact Nat.le_trans (h2 _) h1

set_option maxRecDepth 100000 in
set_option maxHeartbeats 1000000 in
theorem squeeze_any (s : ByteArray) (w : World) (hs : s.size ≤ 1000000000) :
    Calls Tryd.prog 68 #[.string s] w fun e w' => e = .returned (.string ⟨(sqL s.data.toList).toArray⟩) ∧ Below w.heap.size w w' := by
  obtain ⟨i0, hi, hz0, hz1, hz2⟩ := info_parts info5
  have hb := get_bt s
  go_enter Tryd.func68, Tryd.ntmps68
  go_wp2_with (at_make; refine wpList_make_own _ rfl _ _ 52 rfl w.heap.size 5 i0 (.int .u8 0) 1 Tryd.underlying52 hi hz0 hz1 .i64 .i64 (s.size : Int) s.size rfl rfl rfl (by rw [hz2]; omega) (by unfold maxLen; omega) (Nat.le_refl _) ?_; intro w1 hown hgr)
  have hb1 := (Below.refl w.heap.size w).grown hgr (Nat.le_refl _) (fun k hk => by cases hk)
  clear hgr
  go_loopw [3, 10] (fun b i wr => ∃ k : Nat, k ≤ s.size ∧ i = .int .i64 k ∧ wr.ownsRow w.heap.size 5 1 b (sqN s.data.toList k).length (bcells (sqN s.data.toList k)) ∧ Below w.heap.size w wr)
    (fun _ i _ => s.size - (intOf i).toNat)
  case atStart => exact ⟨0, Nat.zero_le _, rfl, hown, hb1⟩
  case round =>
    obtain ⟨k, hk, rfl, hown, hbel⟩ := hrel
    clear hb1
    have hle := sqN_le s.data.toList k
    by_cases hlt : k < s.size
    · have hex : (Hid (sqN s.data.toList (k + 1) = sqN s.data.toList k) ∧ (bt s k == 32) = true ∧ 0 < k ∧ (bt s (k - 1) == 32) = true) ∨
          (Hid (bcells (sqN s.data.toList (k + 1)) = bcells (sqN s.data.toList k) ++ [Value.int .u8 (bt s k)]) ∧ Hid ((sqN s.data.toList (k + 1)).length = (sqN s.data.toList k).length + 1) ∧
            ((bt s k == 32) = false ∨ ((bt s k == 32) = true ∧ k = 0) ∨ ((bt s k == 32) = true ∧ 0 < k ∧ (bt s (k - 1) == 32) = false))) := by
        by_cases h : bt s k = 32 ∧ 0 < k ∧ bt s (k - 1) = 32
        · exact .inl ⟨sq_skip s k h.1 h.2.1 h.2.2, by simp [h.1], h.2.1, by simp [h.2.2]⟩
        · refine .inr ⟨sq_keep s k h, sq_keep_len s k h, ?_⟩
          by_cases h1 : bt s k = 32
          · by_cases h2 : 0 < k
            · exact .inr (.inr ⟨by simp [h1], h2, by simp; exact fun h3 => h ⟨h1, h2, h3⟩⟩)
            · exact .inr (.inl ⟨by simp [h1], by omega⟩)
          · exact .inl (by simp [h1])
      rcases hex with ⟨HS, hq, hpos, hq2⟩ | ⟨HS, HL, hq | ⟨hq, h0⟩ | ⟨hq, hpos, hq2⟩⟩
      · have hsub : IntKind.i64.wrap ((k : Int) - 1) = ((k - 1 : Nat) : Int) := by rw [IntWalk.i64_in _ ⟨by omega, by omega⟩]; omega
        go_wp2
        go_roundw
        case rel => exact ⟨k + 1, by omega, by go_num, by rw [HS.out]; exact hown, hbel⟩
        case measure => simp [intOf]; omega
      · go_wp2_with (at_builtin; refine push_byte wr hown (.tmp 28) (.tmp 32) _ ?_ ?_ ?_ ?_ ?_ ?_ ?_; exact rfl; exact rfl; exact rfl; exact rfl; omega; exact hbel.size; intro v' w1 hown1 hb1)
        go_roundw
        case rel => exact ⟨k + 1, by omega, by go_num, by rw [HS.out, HL.out]; exact hown1, hbel.trans hb1⟩
        case measure => simp [intOf]; omega
      · subst h0
        go_wp2_with (at_builtin; refine push_byte wr hown (.tmp 28) (.tmp 32) _ ?_ ?_ ?_ ?_ ?_ ?_ ?_; exact rfl; exact rfl; exact rfl; exact rfl; omega; exact hbel.size; intro v' w1 hown1 hb1)
        go_roundw
        case rel => exact ⟨0 + 1, by omega, rfl, by rw [HS.out, HL.out]; exact hown1, hbel.trans hb1⟩
        case measure => simp [intOf]; omega
      · have hsub : IntKind.i64.wrap ((k : Int) - 1) = ((k - 1 : Nat) : Int) := by rw [IntWalk.i64_in _ ⟨by omega, by omega⟩]; omega
        go_wp2_with (at_builtin; refine push_byte wr hown (.tmp 28) (.tmp 32) _ ?_ ?_ ?_ ?_ ?_ ?_ ?_; exact rfl; exact rfl; exact rfl; exact rfl; omega; exact hbel.size; intro v' w1 hown1 hb1)
        go_roundw
        case rel => exact ⟨k + 1, by omega, by go_num, by rw [HS.out, HL.out]; exact hown1, hbel.trans hb1⟩
        case measure => simp [intOf]; omega
    · have hkk : k = s.size := by omega
      have hbk := back (l := sqL s.data.toList) (by rw [hkk] at hown; unfold sqL; rw [← Lib.size_eq]; exact hown)
      have HK := Lib.hid hkk
      clear hkk
      go_wp2
      go_ret
      exact ⟨rfl, hbel⟩

end Go.Proofs.YtdjhhofmlefaaaaDoor

