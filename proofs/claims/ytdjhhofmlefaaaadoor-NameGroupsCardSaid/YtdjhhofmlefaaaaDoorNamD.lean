/-
  Contracts of Compare in the program and in the specification. Condition: at most 1000000 bytes.
-/
import Derived.Test.YtdjhhofmlefaaaaDoorNamT
import Derived.BigRegion
set_option linter.unusedVariables false
set_option linter.unusedSimpArgs false
set_option linter.unnecessarySimpa false
namespace Go.Proofs.YtdjhhofmlefaaaaDoor
open Go.RowKit Go.PlainAid

theorem own_keep {w w' : World} {base n size : Nat} {e : TypeId} {v : Value} {xs : List Value} {ao : Option Addr} (h : w.ownsRow base e size v n xs) (hk : BlockKeep ao w w') (hd : ∀ g, ao = some ⟨g, 0, none⟩ → g < base) : w'.ownsRow base e size v n xs := by
  refine ⟨h.1, ?_⟩
  rcases h.2 with h2 | ⟨g, cap, cur, h2, h3, h4, h5⟩
  · exact .inl h2
  · refine .inr ⟨g, cap, cur, h2, h3, ?_, h5⟩
    rw [hk.2 g (by
      rcases Nat.lt_or_ge g w.heap.size with h' | h'
      · exact h'
      · simp [Array.getElem?_eq_none h'] at h4) (fun g' e => by have := hd g' e; omega)]
    exact h4
theorem pairs_keep {w w' : World} {B n cap : Nat} {ao : Option Addr} {l : List Pr} (h : PairsAt w ao n cap l) (hb : Below B w w') (hd : ∀ g off, ao = some ⟨g, off, none⟩ → g < B) : PairsAt w' ao n cap l :=
  ⟨h.1, h.2.1, h.2.2.1, fun hn => by
    obtain ⟨b, off, e, hi⟩ := h.2.2.2 hn
    exact ⟨b, off, e, hi.below hb (hd b off e)⟩⟩

set_option maxRecDepth 100000 in
set_option maxHeartbeats 4000000 in
theorem compare_s (a b : ByteArray) (w : World) (ha : a.size ≤ 1000000) (hb : b.size ≤ 1000000) :
    Calls Tryd.prog 34 #[.string a, .string b] w fun e w' => e = .returned (.int .i64 (cmpN a b)) ∧ Below w.heap.size w w' := by
  have h8 := compsV_few a
  have h9 := compsV_few b
  have HN := Lib.hid (show cmpN a b = if normB a then (if normB b then cmpL (compsV a).reverse (compsV b).reverse else -1) else (if normB b then 1 else cmpS a b) from rfl)
  go_enter Tryd.func34, Tryd.ntmps34
  go_wp2_with fail
  refine (components_s a _ ha).mono ?_
  rintro e w1 ⟨v, rfl, hown, hb1⟩
  obtain ⟨ao, cap, rfl⟩ := own_slice hown
  go_wp2_with fail
  refine (components_s b _ hb).mono ?_
  rintro e w2 ⟨v, rfl, hown2, hb2⟩
  obtain ⟨bo, dap, rfl⟩ := own_slice hown2
  have L2 := below_next hb1 hb2
  have hal : ∀ g, ao = some ⟨g, 0, none⟩ → g < w1.heap.size := fun g e => by subst e; exact (hown.lt g rfl).2
  have HO := Lib.hid (own_below hown hb2)
  have HO2 := Lib.hid hown2
  have HP := Lib.hid (own_plain hown)
  have HAL := Lib.hid hal
  have HB1 := Lib.hid hb1
  clear hown hown2 hal
  obtain ⟨l, hl⟩ : ∃ l, compsV a = l := ⟨_, rfl⟩
  obtain ⟨m, hm⟩ : ∃ m, compsV b = m := ⟨_, rfl⟩
  rw [hl] at h8 HN HO ⊢
  rw [hm] at h9 HN HO2 ⊢
  clear hl hm
  cases c1 : normB a
  · cases c2 : normB b
    · rw [c1, c2] at HN
      have HF := Lib.hid (show cmpN a b = cmpS a b from HN.out)
      clear c1 c2
      go_wp2_with (go_at_call 58; refine (compare_lib a b _).mono ?_; rintro e w' ⟨rfl, rfl⟩)
      go_ret
      exact ⟨by rw [HF.out]; rfl, L2⟩
    · rw [c1, c2] at HN
      have HF := Lib.hid (show cmpN a b = 1 from HN.out)
      clear c1 c2
      go_wp2
      go_ret
      exact ⟨by rw [HF.out]; rfl, L2⟩
  · cases c2 : normB b
    · rw [c1, c2] at HN
      have HF := Lib.hid (show cmpN a b = -1 from HN.out)
      clear c1 c2
      go_wp2
      go_ret
      exact ⟨by rw [HF.out]; rfl, L2⟩
    · rw [c1, c2] at HN
      have HF := Lib.hid (show cmpN a b = cmpL l.reverse m.reverse from HN.out)
      clear c1 c2
      go_wp2_with fail
      refine (reverse_s _ _ _ cap ao l HO.out rfl (by omega)).mono ?_
      rintro e w3 ⟨rfl, hat3, hb3, hk3⟩
      have HO3 := Lib.hid (own_keep HO2.out hk3 HAL.out)
      have L3 := L2.trans hb3
      have HA3 := Lib.hid hat3
      clear hat3 hk3 hb3
      go_wp2_with fail
      refine (reverse_s _ _ _ dap bo m HO3.out rfl (by omega)).mono ?_
      rintro e w4 ⟨rfl, hat4, hb4, hk4⟩
      have HA4 := Lib.hid (pairs_keep HA3.out hb4 (fun g off e => by
        rcases Nat.eq_zero_or_pos cap with hc | hc
        · have := HO.out.2
          rcases this with ⟨h, _⟩ | ⟨g2, c2, cur, h, h3, h4, h5, h6, h7, h8⟩
          · injection h with q; subst q; cases e
          · injection h with q1 q2 q3; subst q1; cases e; exact HAL.out _ rfl
        · obtain ⟨g2, rfl⟩ := own_some HO.out hc
          cases e; exact HAL.out _ rfl))
      have HB4 := Lib.hid hat4
      have L4 := L3.trans (hb4.mono HB1.out.size)
      clear hat4 hk4 hb4
      go_wp2_with fail
      refine (compareFunc_s ao bo _ cap _ dap l.reverse m.reverse _ HA4.out HB4.out (by omega) (by omega)).mono ?_
      rintro e w5 ⟨rfl, hb5⟩
      go_wp2
      go_ret
      exact ⟨by rw [HF.out]; rfl, below_next L4 hb5⟩

theorem prAt_rev (l : List Pr) (k : Nat) (h : k < l.length) : prAt l.reverse k = prAt l (l.length - 1 - k) := by
  unfold prAt; rw [List.getD_eq_getElem?_getD, List.getD_eq_getElem?_getD, List.getElem?_reverse h]

set_option maxRecDepth 100000 in
set_option maxHeartbeats 8000000 in
theorem rcompare_s (a b : ByteArray) (w : World) (ha : a.size ≤ 1000000) (hb : b.size ≤ 1000000) :
    Calls Tryd.prog 35 #[.string a, .string b] w fun e w' => e = .returned (.int .i64 (cmpN a b)) ∧ Below w.heap.size w w' := by
  have h8 := compsV_few a
  have h9 := compsV_few b
  have HN := Lib.hid (show cmpN a b = if normB a then (if normB b then cmpL (compsV a).reverse (compsV b).reverse else -1) else (if normB b then 1 else cmpS a b) from rfl)
  go_enter Tryd.func35, Tryd.ntmps35
  go_wp2_with fail
  refine (rparts_s a _ ha).mono ?_
  rintro e w1 ⟨v, rfl, hown, hb1⟩
  obtain ⟨ao, cap, rfl, hat⟩ := pairs_own hown rfl
  go_wp2_with fail
  refine (rparts_s b _ hb).mono ?_
  rintro e w2 ⟨v, rfl, hown2, hb2⟩
  obtain ⟨bo, dap, rfl, hat2⟩ := pairs_own hown2 rfl
  have L2 := below_next hb1 hb2
  have HA := Lib.hid (hat.below hb2)
  have HQ := Lib.hid hat2
  clear hown hown2 hat hat2 hb1 hb2
  obtain ⟨l, hl⟩ : ∃ l, compsV a = l := ⟨_, rfl⟩
  obtain ⟨m, hm⟩ : ∃ m, compsV b = m := ⟨_, rfl⟩
  rw [hl] at h8 HN HA ⊢
  rw [hm] at h9 HN HQ ⊢
  clear hl hm
  cases c1 : normB a
  · cases c2 : normB b
    · rw [c1, c2] at HN
      have HF := Lib.hid (show cmpN a b = cmpS a b from HN.out)
      clear c1 c2
      go_wp2_with (go_at_call 59; refine (bytes_s a b _).mono ?_; rintro e w' ⟨rfl, rfl⟩)
      go_ret
      exact ⟨by rw [HF.out]; rfl, L2⟩
    · rw [c1, c2] at HN
      have HF := Lib.hid (show cmpN a b = 1 from HN.out)
      clear c1 c2
      go_wp2
      go_ret
      exact ⟨by rw [HF.out]; rfl, L2⟩
  · cases c2 : normB b
    · rw [c1, c2] at HN
      have HF := Lib.hid (show cmpN a b = -1 from HN.out)
      clear c1 c2
      go_wp2
      go_ret
      exact ⟨by rw [HF.out]; rfl, L2⟩
    · rw [c1, c2] at HN
      have HF := Lib.hid (show cmpN a b = cmpL l.reverse m.reverse from HN.out)
      clear c1 c2
      go_wp2
      go_loopw [9] (fun i wr => ∃ k : Nat, k ≤ l.length ∧ k ≤ m.length ∧ i = .int .i64 ((k + 1 : Nat) : Int) ∧ Hid (cmpL l.reverse m.reverse = cmpL (l.reverse.drop k) (m.reverse.drop k)) ∧ Below w2.heap.size w2 wr) (fun i _ => l.length + 1 - (intOf i).toNat)
      case atStart => exact ⟨0, Nat.zero_le _, Nat.zero_le _, rfl, Lib.hid rfl, Below.refl _ _⟩
      case round =>
        obtain ⟨k, hk, hkm, rfl, HC, hbel⟩ := hrel
        by_cases hlt : k < l.length
        · have d1 : decide (((k + 1 : Nat) : Int) ≤ (l.length : Int)) = true := decide_eq_true (by omega)
          by_cases hltm : k < m.length
          · have d2 : decide (((k + 1 : Nat) : Int) ≤ (m.length : Int)) = true := decide_eq_true (by omega)
            obtain ⟨i, hi⟩ : ∃ i, l.length - 1 - k = i := ⟨_, rfl⟩
            obtain ⟨j, hj⟩ : ∃ j, m.length - 1 - k = j := ⟨_, rfl⟩
            have HST := Lib.hid (cmpL_step l.reverse m.reverse k (by simp; omega) (by simp; omega))
            rw [prAt_rev l k hlt, prAt_rev m k hltm, hi, hj] at HST
            obtain ⟨b1, off, rfl, hs⟩ := HA.out.2.2.2 (by omega)
            obtain ⟨b2, off2, rfl, hs2⟩ := HQ.out.2.2.2 (by omega)
            obtain ⟨hc1, hc2⟩ := (hs.below hbel hs.1).2 i (by omega)
            obtain ⟨hd1, hd2⟩ := (hs2.below hbel hs2.1).2 j (by omega)
            obtain ⟨⟨p1, p2⟩, hpe⟩ : ∃ p, p = prAt l i := ⟨_, rfl⟩
            obtain ⟨⟨q1, q2⟩, hqe⟩ : ∃ p, p = prAt m j := ⟨_, rfl⟩
            rw [← hpe, ← hqe] at HST
            rw [← hpe] at hc1 hc2
            rw [← hqe] at hd1 hd2
            simp only [] at hc1 hc2 hd1 hd2
            have e1 : IntKind.i64.wrap ((l.length : Int) - ((k : Int) + 1)) = (i : Int) := by rw [IntWalk.i64_in _ (by omega)]; omega
            have e2 : IntKind.i64.wrap ((m.length : Int) - ((k : Int) + 1)) = (j : Int) := by rw [IntWalk.i64_in _ (by omega)]; omega
            have i1 : (0 : Int) ≤ (i : Int) := by omega
            have i2 : (i : Int) < (l.length : Int) := by omega
            have j1 : (0 : Int) ≤ (j : Int) := by omega
            have j2 : (j : Int) < (m.length : Int) := by omega
            have HM := Lib.hid (show Below w2.heap.size w2 (((wr.alloc (.cells #[.string q1, .string q2] 36)).alloc (.cells #[.string p1, .string p2] 36)).drew) from (hbel.trans ((below_next (below_new _) (below_new _)).mono hbel.size)).drew)
            have HL := Lib.hid (show Below w2.heap.size w2 (((wr.alloc (.cells #[.string p1, .string p2] 36)).alloc (.cells #[.string q1, .string q2] 36)).drew) from (hbel.trans ((below_next (below_new _) (below_new _)).mono hbel.size)).drew)
            have hb1 : b1 < wr.heap.size := Nat.lt_of_lt_of_le hs.1 hbel.size
            have hb2 : b2 < wr.heap.size := Nat.lt_of_lt_of_le hs2.1 hbel.size
            have one : ∀ (o : Obj) (x : Addr) (v : Value), wr.cell? x = some v → (wr.alloc o).cell? x = some v := fun o x v h => Lib.cell?_alloc_some _ h
            have two : ∀ (o o' : Obj) (x : Addr) (v : Value), wr.cell? x = some v → ((wr.alloc o).alloc o').cell? x = some v := fun o o' x v h => Lib.cell?_alloc_some _ (one o x v h)
            have f1 := fun o => one o _ _ hc1
            have f2 := fun o => one o _ _ hc2
            have f3 := fun o => one o _ _ hd1
            have f4 := fun o => one o _ _ hd2
            have g1 := fun o o' => two o o' _ _ hc1
            have g2 := fun o o' => two o o' _ _ hc2
            have g3 := fun o o' => two o o' _ _ hd1
            have g4 := fun o o' => two o o' _ _ hd2
            clear one two
            clear hs hs2 hpe hqe
            have t1 := str_eq p1 q1
            have t2 := str_eq p2 q2
            have S := cmpS_ord
            by_cases u1 : p1 = q1
            · have z1 : cmpS p1 q1 = 0 := (S.zero _ _).2 u1
              by_cases u2 : p2 = q2
              · have z2 : cmpS p2 q2 = 0 := (S.zero _ _).2 u2
                have HV := Lib.hid (show cmpL l.reverse m.reverse = cmpL (l.reverse.drop (k + 1)) (m.reverse.drop (k + 1)) by
                  rw [HC.out, HST.out, if_pos (by unfold cmpP; simp only []; rw [if_pos z1]; exact z2)])
                rw [decide_eq_true u1] at t1
                rw [decide_eq_true u2] at t2
                have t1n : (p1.toList != q1.toList) = false := by unfold bne; rw [t1]; rfl
                have t2n : (p2.toList != q2.toList) = false := by unfold bne; rw [t2]; rfl
                clear u1 u2 S z1 z2
                go_wp2_with fail
                go_region
                all_goals
                  go_wp2
                  go_roundw
                  case rel => exact ⟨k + 1, by omega, by omega, by go_num, HV, (by first | exact HL.out | exact HM.out)⟩
                  case measure => simp [intOf]; omega
              · have z2 : cmpS p2 q2 ≠ 0 := fun e => u2 ((S.zero _ _).1 e)
                have HV := Lib.hid (show cmpN a b = cmpS p2 q2 by
                  rw [HF.out, HC.out, HST.out, if_neg (by unfold cmpP; simp only []; rw [if_pos z1]; exact z2)]
                  unfold cmpP; simp only []; rw [if_pos z1])
                rw [decide_eq_true u1] at t1
                rw [decide_eq_false u2] at t2
                have t1n : (p1.toList != q1.toList) = false := by unfold bne; rw [t1]; rfl
                have t2n : (p2.toList != q2.toList) = true := by unfold bne; rw [t2]; rfl
                clear u1 u2 S z1 z2
                go_wp2_with fail
                go_region
                all_goals
                  go_wp2_with (go_at_call 59; refine (bytes_s p2 q2 _).mono ?_; rintro e w' ⟨rfl, rfl⟩)
                  go_ret
                  exact ⟨by rw [HV.out]; rfl, below_next L2 (by first | exact HL.out | exact HM.out)⟩
            · have z1 : cmpS p1 q1 ≠ 0 := fun e => u1 ((S.zero _ _).1 e)
              have HV := Lib.hid (show cmpN a b = cmpS p1 q1 by
                rw [HF.out, HC.out, HST.out, if_neg (by unfold cmpP; simp only []; rw [if_neg z1]; exact z1)]
                unfold cmpP; simp only []; rw [if_neg z1])
              rw [decide_eq_false u1] at t1
              have t1n : (p1.toList != q1.toList) = true := by unfold bne; rw [t1]; rfl
              clear u1 S z1 t2
              go_wp2_with fail
              go_region
              all_goals
                go_wp2_with (go_at_call 59; refine (bytes_s p1 q1 _).mono ?_; rintro e w' ⟨rfl, rfl⟩)
                go_ret
                exact ⟨by rw [HV.out]; rfl, below_next L2 (by first | exact HL.out | exact HM.out)⟩
          · have HV := Lib.hid (show cmpN a b = 1 by rw [HF.out, HC.out, cmpL_left _ _ k (by simp; omega) (by simp; omega)])
            have d2 : decide (((k + 1 : Nat) : Int) ≤ (m.length : Int)) = false := decide_eq_false (by omega)
            have d3 : decide ((l.length : Int) < (m.length : Int)) = false := decide_eq_false (by omega)
            have d4 : decide ((m.length : Int) < (l.length : Int)) = true := decide_eq_true (by omega)
            go_wp2
            go_ret
            exact ⟨by rw [HV.out]; rfl, below_next L2 hbel⟩
        · have d1 : decide (((k + 1 : Nat) : Int) ≤ (l.length : Int)) = false := decide_eq_false (by omega)
          have d4 : decide ((m.length : Int) < (l.length : Int)) = false := decide_eq_false (by omega)
          have HV0 := Lib.hid (show cmpN a b = if k < m.reverse.length then -1 else 0 by rw [HF.out, HC.out, cmpL_right _ _ k (by simp; omega)])
          rw [List.length_reverse] at HV0
          by_cases hltm : l.length < m.length
          · have HV := Lib.hid (show cmpN a b = -1 by rw [HV0.out, if_pos (by omega)])
            have d3 : decide ((l.length : Int) < (m.length : Int)) = true := decide_eq_true (by omega)
            clear HV0
            go_wp2
            go_ret
            exact ⟨by rw [HV.out]; rfl, below_next L2 hbel⟩
          · have HV := Lib.hid (show cmpN a b = 0 by rw [HV0.out, if_neg (by omega)])
            have d3 : decide ((l.length : Int) < (m.length : Int)) = false := decide_eq_false (by omega)
            clear HV0
            go_wp2
            go_ret
            exact ⟨by rw [HV.out]; rfl, below_next L2 hbel⟩

end Go.Proofs.YtdjhhofmlefaaaaDoor
