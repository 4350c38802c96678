/-
  Contract of the specification's first. Condition: at most 1000000000 bytes.
-/
import Derived.Test.YtafecnaeoeanmaaDoorJouF
import Derived.Test.YtafecnaeoeanmaaDoorCodecRInt2
set_option maxRecDepth 100000
set_option linter.unusedVariables false
set_option linter.unusedSimpArgs false
set_option linter.unnecessarySimpa false
namespace Go.Proofs.YtafecnaeoeanmaaDoor
open Go.RowKit Go.PlainAid

theorem tk_chr (s : ByteArray) (k : Nat) (h : k < s.size) : s.data.toList.take (k + 1) = s.data.toList.take k ++ [chr s k] := by
  unfold chr
  rw [List.take_succ_eq_append_getElem (by rw [L_len]; exact h), List.getD_eq_getElem?_getD, List.getElem?_eq_getElem (by rw [L_len]; exact h)]
  rfl
theorem at_chr (s : ByteArray) (k : Nat) (c : UInt8) (h : s.data.toList[k]? = some c) : c = chr s k := by
  unfold chr
  rw [List.getD_eq_getElem?_getD, h]; rfl
theorem rf_no {s : List UInt8} {i : Nat} (hi : i ≤ s.length) (h : (s.take i).all digB = true) (hn : ∀ c, s[i]? = some c → digB c = false) (hv : valD (s.take i) ≤ 4096)
    {r : List UInt8} (hr : (s.drop (i + 1)).take (valD (s.take i)) = r) (hp : (encL r).isPrefixOf s = false) : firstL s = none := by
  rw [rf_eq hi h hn hv, hr, hp]; rfl
theorem rf_yes {s : List UInt8} {i : Nat} (hi : i ≤ s.length) (h : (s.take i).all digB = true) (hn : ∀ c, s[i]? = some c → digB c = false) (hv : valD (s.take i) ≤ 4096)
    {r : List UInt8} (hr : (s.drop (i + 1)).take (valD (s.take i)) = r) (hp : (encL r).isPrefixOf s = true) : firstL s = some r := by
  rw [rf_eq hi h hn hv, hr, hp]; rfl
theorem ext_mid (s : ByteArray) (i n : Nat) : (s.extract i (i + n)).data.toList = (s.data.toList.drop i).take n := by
  simp [ByteArray.data_extract, Array.toList_extract]
theorem pre_eq (s q : ByteArray) (h : q.size ≤ s.size) : (q.data.toList.isPrefixOf s.data.toList) = decide (s.extract 0 q.size = q) := by
  rw [Bool.eq_iff_iff, decide_eq_true_iff, List.isPrefixOf_iff_prefix, List.prefix_iff_eq_take, L_len, ← ext_take]
  constructor
  · intro e
    rw [← Lib.mk_data (s.extract 0 q.size), ← e, Lib.mk_data]
  · intro e; rw [e]
theorem pre_long (s q : ByteArray) (h : s.size < q.size) : (q.data.toList.isPrefixOf s.data.toList) = false := by
  rw [Bool.eq_false_iff]
  intro e
  rw [List.isPrefixOf_iff_prefix] at e
  have := e.length_le
  rw [L_len, L_len] at this
  omega
structure RfI (s : ByteArray) (k m : Nat) : Prop where
  dig : (s.data.toList.take k).all digB = true
  val : m = valD (s.data.toList.take k)
set_option maxHeartbeats 1500000 in
theorem rfirst_s (s : ByteArray) (w : World) (hs : s.size ≤ 1000000000) :
    Calls Tryd.prog 32 #[.string s] w fun e w' => e = .returned (.tuple #[.string (fV s), .bool (fB s)]) ∧ Below w.heap.size w w' := by
  have hb := get_bt s
  go_enter Tryd.func32, Tryd.ntmps32
  go_wp2_with fail
  go_loop [4, 5] (fun nv iv => ∃ k m : Nat, k ≤ s.size ∧ m ≤ 41000 ∧ iv = .int .i64 k ∧ nv = .int .i64 m ∧ Hid (RfI s k m)) (fun _ iv => s.size - (intOf iv).toNat)
  case atStart => exact ⟨0, 0, Nat.zero_le _, Nat.zero_le _, rfl, rfl, Lib.hid ⟨rfl, rfl⟩⟩
  case round =>
    obtain ⟨k, m, hk, hm, rfl, rfl, HI⟩ := hrel
    have h0 := bt_nonneg s k
    have h255 := bt_le s k
    by_cases h4 : m ≤ 4096
    · have d4 : decide ((m : Int) ≤ 4096) = true := decide_eq_true (by omega)
      by_cases hgo : k < s.size ∧ digB (chr s k) = true
      · obtain ⟨hlt, hd⟩ := hgo
        have hc := digB_bounds hd
        have he := bt_chr s k
        have b1 : 48 ≤ bt s k := by omega
        have b2 : bt s k ≤ 57 := by omega
        have HT := Lib.hid (tk_chr s k hlt)
        have HN := Lib.hid (show RfI s (k + 1) (10 * m + ((chr s k).toNat - 48)) from ⟨by rw [HT.out, List.all_append, HI.out.dig]; simp [hd], by rw [HT.out, valD_snoc, ← HI.out.val]⟩)
        have HV := Lib.hid (show ((10 * m + ((chr s k).toNat - 48) : Nat) : Int) = (m : Int) * 10 + (bt s k - 48) by omega)
        have hz : 10 * m + ((chr s k).toNat - 48) ≤ 41000 := by omega
        clear hd hc he
        go_wp2_with fail
        go_round
        case rel => exact ⟨k + 1, _, by omega, hz, by go_num, by rw [HV.out], HN⟩
        case measure => simp [intOf]; omega
      · have HS : Hid (∀ c, s.data.toList[k]? = some c → digB c = false) := Lib.hid (fun c hc => by
          have hlt : k < s.size := by rw [← L_len]; exact (List.getElem?_eq_some_iff.1 hc).1
          have e := at_chr s k c hc
          cases hd : digB c with
          | false => rfl
          | true => exact absurd ⟨hlt, by rw [← e]; exact hd⟩ hgo)
        have HV := Lib.hid (show valD (s.data.toList.take k) ≤ 4096 by rw [← HI.out.val]; exact h4)
        have HK := Lib.hid (show k ≤ s.data.toList.length by rw [L_len]; exact hk)
        have d5 : decide ((4096 : Int) < (m : Int)) = false := decide_eq_false (by omega)
        obtain ⟨r, hr⟩ : ∃ r, s.extract (k + 1) (k + 1 + m) = r := ⟨_, rfl⟩
        obtain ⟨q, hq⟩ : ∃ q, encS r = q := ⟨_, rfl⟩
        have HR := Lib.hid (show (s.data.toList.drop (k + 1)).take (valD (s.data.toList.take k)) = r.data.toList by rw [← hr, ext_mid, HI.out.val])
        have HQ := Lib.hid hq
        have HE := Lib.hid (show q.data.toList = encL r.data.toList by rw [← hq]; rfl)
        have hr1 : r.size ≤ 1000000 := by rw [← hr, ByteArray.size_extract]; omega
        clear hq
        rcases (show (decide ((k : Int) < (s.size : Int)) = false ∧ ¬ k < s.size) ∨ (decide ((k : Int) < (s.size : Int)) = true ∧ k < s.size ∧ decide (48 ≤ bt s k) = false ∧ bt s k < 48) ∨ (decide ((k : Int) < (s.size : Int)) = true ∧ k < s.size ∧ 48 ≤ bt s k ∧ decide (bt s k ≤ 57) = false ∧ 57 < bt s k) by
          by_cases hlt : k < s.size
          · have he := bt_chr s k
            have hnd : ¬ digB (chr s k) = true := fun h => hgo ⟨hlt, h⟩
            by_cases b1 : 48 ≤ bt s k
            · have h5 : ¬ bt s k ≤ 57 := fun b2 => hnd (by
                unfold digB
                rw [Bool.and_eq_true, decide_eq_true_iff, decide_eq_true_iff]; omega)
              exact .inr (.inr ⟨decide_eq_true (by omega), hlt, b1, decide_eq_false h5, by omega⟩)
            · exact .inr (.inl ⟨decide_eq_true (by omega), hlt, decide_eq_false b1, by omega⟩)
          · exact .inl ⟨decide_eq_false (by omega), hlt⟩) with ⟨g1, hlt⟩ | ⟨g1, hlt, g2, g3⟩ | ⟨g1, hlt, g2, g3, g4⟩
        all_goals
          clear hgo
          by_cases hsh : s.size < k + 1 + m
          · have d6 : decide ((s.size : Int) < (k : Int) + 1 + (m : Int)) = true := decide_eq_true (by omega)
            have HN := Lib.hid (f_none (rf_short HK.out HI.out.dig HS.out (by rw [L_len, ← HI.out.val]; exact hsh)))
            go_wp2_with fail
            go_ret2
            exact ⟨by rw [HN.out.1, HN.out.2.2]; rfl, Below.refl _ _⟩
          · have d6 : decide ((s.size : Int) < (k : Int) + 1 + (m : Int)) = false := decide_eq_false (by omega)
            go_wp2_with fail
            refine (rencode_k r q _ hr1 HQ.out).mono ?_
            rintro e v1 ⟨rfl, hb1⟩
            by_cases hlong : s.size < q.size
            · have d7 : decide ((s.size : Int) < (q.size : Int)) = true := decide_eq_true (by omega)
              have HN := Lib.hid (f_none (rf_no HK.out HI.out.dig HS.out HV.out HR.out (by rw [← HE.out]; exact pre_long s q hlong)))
              go_wp2_with fail
              go_ret2
              exact ⟨by rw [HN.out.1, HN.out.2.2]; rfl, hb1⟩
            · have d7 : decide ((s.size : Int) < (q.size : Int)) = false := decide_eq_false (by omega)
              obtain ⟨x, hx⟩ : ∃ x, s.extract 0 q.size = x := ⟨_, rfl⟩
              have HP := Lib.hid (show (encL r.data.toList).isPrefixOf s.data.toList = decide (x = q) by rw [← HE.out, ← hx]; exact pre_eq s q (by omega))
              by_cases hxq : x = q
              · have e1 : (x.toList != q.toList) = false := by rw [hxq]; simp
                have e2 : (x.toList == q.toList) = true := by rw [hxq]; simp
                have HF := Lib.hid (f_some (rf_yes HK.out HI.out.dig HS.out HV.out HR.out (by rw [HP.out]; exact decide_eq_true hxq)))
                clear hxq
                go_wp2_with fail
                go_ret2
                exact ⟨by rw [HF.out.1, HF.out.2.2]; rfl, hb1⟩
              · have hne : x.toList ≠ q.toList := fun e => hxq (by
                  rw [Lib.toList_data, Lib.toList_data] at e
                  rw [← Lib.mk_data x, ← Lib.mk_data q, e])
                have e1 : (x.toList != q.toList) = true := bne_iff_ne.2 hne
                have e2 : (x.toList == q.toList) = false := beq_false_of_ne hne
                have HN := Lib.hid (f_none (rf_no HK.out HI.out.dig HS.out HV.out HR.out (by rw [HP.out]; exact decide_eq_false hxq)))
                clear hxq hne
                go_wp2_with fail
                go_ret2
                exact ⟨by rw [HN.out.1, HN.out.2.2]; rfl, hb1⟩
    · have d4 : decide ((m : Int) ≤ 4096) = false := decide_eq_false (by omega)
      have d5 : decide ((4096 : Int) < (m : Int)) = true := decide_eq_true (by omega)
      have HN := Lib.hid (f_none (rf_big HI.out.dig (by rw [← HI.out.val]; omega)))
      rcases (show (decide ((k : Int) < (s.size : Int)) = false ∧ ¬ k < s.size) ∨ (decide ((k : Int) < (s.size : Int)) = true ∧ k < s.size ∧ decide (48 ≤ bt s k) = false ∧ bt s k < 48) ∨ (decide ((k : Int) < (s.size : Int)) = true ∧ k < s.size ∧ 48 ≤ bt s k ∧ decide (bt s k ≤ 57) = false ∧ 57 < bt s k) ∨ (decide ((k : Int) < (s.size : Int)) = true ∧ k < s.size ∧ 48 ≤ bt s k ∧ bt s k ≤ 57) by
        by_cases hlt : k < s.size
        · by_cases b1 : 48 ≤ bt s k
          · by_cases b2 : bt s k ≤ 57
            · exact .inr (.inr (.inr ⟨decide_eq_true (by omega), hlt, b1, b2⟩))
            · exact .inr (.inr (.inl ⟨decide_eq_true (by omega), hlt, b1, decide_eq_false b2, by omega⟩))
          · exact .inr (.inl ⟨decide_eq_true (by omega), hlt, decide_eq_false b1, by omega⟩)
        · exact .inl ⟨decide_eq_false (by omega), hlt⟩) with ⟨g1, hlt⟩ | ⟨g1, hlt, g2, g3⟩ | ⟨g1, hlt, g2, g3, g4⟩ | ⟨g1, hlt, g2, g3⟩
      all_goals
        go_wp2_with fail
        go_ret2
        exact ⟨by rw [HN.out.1, HN.out.2.2]; rfl, Below.refl _ _⟩

end Go.Proofs.YtafecnaeoeanmaaDoor
