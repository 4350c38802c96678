/-
  The contract of clock.parts. Condition: none.
-/
import Derived.Test.YtnncfifpgjlpaabDoorClkPrsB
import Derived.Laws.RangeString
import Derived.Laws.RangeAny
import Derived.Laws.NewBlocks
import Derived.Deep.RegionHeld3
import Derived.StillTailTactics
import Derived.BigQuiet
set_option linter.unusedVariables false
set_option linter.unusedSimpArgs false
set_option linter.unnecessarySimpa false
namespace Go.Proofs.YtnncfifpgjlpaabDoor
open Go.RowKit Go.PlainAid

theorem byte_chr (t : ByteArray) (k : Nat) (h : k < t.size) : ((t[k]'h).toNat : Int) = bt t k := by unfold bt; rw [dif_pos h]
/-- one step of a range over a string, at a byte below 128 -/
theorem next_low (w : World) (t : ByteArray) (k : Nat) (h : k < t.size) (hc : bt t k < 128) (ty : TypeId) :
    (Instr.next (.pointer (some ⟨w.heap.size, 0, none⟩)) true ty).run Tryd.prog (w.alloc (.stringIter t k)) = .ok (.tuple #[.bool true, .int .i64 k, .int .i32 (bt t k)]) (w.alloc (.stringIter t (k + 1))) := by
  show (Instr.next (.pointer (some ⟨w.heap.size, 0, none⟩)) true ty).run Tryd.prog (w.iter t k) = .ok (.tuple #[.bool true, .int .i64 k, .int .i32 (bt t k)]) (w.iter t (k + 1))
  have hb := byte_chr t k h
  rw [run_next_ascii (P := Tryd.prog) w t k ty h (by omega), hb]
/-- .. and above -/
theorem iterPos_new (w : World) (t : ByteArray) (k n : Nat) (h : n = w.heap.size) : (w.alloc (.stringIter t k)).iterPos n = k := by
  subst h
  unfold World.iterPos
  rw [show (w.alloc (.stringIter t k)).heap[w.heap.size]? = some (.stringIter t k) from heap_alloc_new w _]
theorem next_end (w : World) (t : ByteArray) (k : Nat) (h : ¬ k < t.size) (ty : TypeId) :
    (Instr.next (.pointer (some ⟨w.heap.size, 0, none⟩)) true ty).run Tryd.prog (w.alloc (.stringIter t k)) = .ok (.tuple #[.bool false]) (w.alloc (.stringIter t k)) := run_next_end w t k ty h
theorem next_high (w : World) (t : ByteArray) (k : Nat) (h : k < t.size) (hc : 128 ≤ bt t k) : ∃ (r : Int) (d : Nat), 128 ≤ r ∧ 1 ≤ d ∧ (∀ ty,
    (Instr.next (.pointer (some ⟨w.heap.size, 0, none⟩)) true ty).run Tryd.prog (w.alloc (.stringIter t k)) = .ok (.tuple #[.bool true, .int .i64 k, .int .i32 r]) (w.alloc (.stringIter t (k + d)))) := by
  have hb := byte_chr t k h
  have hd := decode_high t k h (by omega)
  exact ⟨((Utf8.decode t k).1 : Int), (Utf8.decode t k).2, by omega, hd.2, fun ty => run_next_any (P := Tryd.prog) w t k ty h⟩

def intsV (v : List Nat) : Array Value := (v.map fun (n : Nat) => Value.int .i64 (n : Int)).toArray
theorem intsV_set (v : List Nat) (p x : Nat) : (intsV v).setIfInBounds p (.int .i64 (x : Int)) = intsV (v.set p x) := by
  unfold intsV
  rw [List.setIfInBounds_toArray, List.map_set]
theorem intsV_get (v : List Nat) (p : Nat) (h : p < v.length) : (intsV v)[p]? = some (.int .i64 (v.getD p 0 : Nat)) := by
  unfold intsV
  rw [List.getElem?_toArray, List.getElem?_map, List.getElem?_eq_getElem h, List.getD_eq_getElem?_getD, List.getElem?_eq_getElem h]
  rfl
theorem intsV_size (v : List Nat) : (intsV v).size = v.length := by unfold intsV; simp
theorem fit_no (l : List UInt8) (h0 : l.length ≠ 20) (h1 : l.length ≠ 21 ∨ (l.getD 0 0).toNat = 48) : fitB l = false := by
  unfold fitB
  rw [decide_eq_false h0]
  rcases h1 with h | h
  · rw [decide_eq_false h]; rfl
  · rw [decide_eq_true h]; simp
theorem six {α : Type} (l : List α) (h : l.length = 6) : ∃ a b c d e f, l = [a, b, c, d, e, f] := by
  match l, h with
  | [a, b, c, d, e, f], _ => exact ⟨a, b, c, d, e, f, rfl⟩
theorem ok_all {F : List Nat} {l : List UInt8} (h : ∀ j, j < F.length → okC (F.getD j 0) (l.getD j 0) = true) : allOk F l = true := by
  unfold allOk
  rw [List.all_eq_true]
  intro j hj
  exact h j (List.mem_range.1 hj)
theorem ok_bad {F : List Nat} {l : List UInt8} (j : Nat) (hj : j < F.length) (h : okC (F.getD j 0) (l.getD j 0) = false) : allOk F l = false := by
  unfold allOk
  rw [List.all_eq_false]
  exact ⟨j, List.mem_range.2 hj, by rw [h]; decide⟩
def zero6 : Array Value := #[.int .i64 0, .int .i64 0, .int .i64 0, .int .i64 0, .int .i64 0, .int .i64 0]

set_option maxRecDepth 100000 in
set_option maxHeartbeats 2000000 in
theorem parts_no (t : ByteArray) (w : World) (h0 : t.size ≠ 20) (h1 : t.size ≠ 21 ∨ bt t 0 = 48) :
    Calls Tryd.prog 36 #[.string t] w fun e w' => e = .returned (.tuple #[.agg #[.int .i64 0, .int .i64 0, .int .i64 0, .int .i64 0, .int .i64 0, .int .i64 0], .bool false]) ∧ Below w.heap.size w w' := by
  have n20 : ((t.size : Int) != 20) = true := by simp; omega
  by_cases h2 : t.size = 21
  · have n21 : ((t.size : Int) == 21) = true := by simp; omega
    have hb : (bt t 0 != 48) = false := by
      rcases h1 with h | h
      · exact absurd h2 h
      · rw [h]; rfl
    have hbt := get_bt t
    have hpos : 0 < t.size := by omega
    clear h0 h1 h2
    go_enter Tryd.func36, Tryd.ntmps36
    go_wp2
    refine bodyPost_ret (v := .tuple #[.agg #[.int .i64 0, .int .i64 0, .int .i64 0, .int .i64 0, .int .i64 0, .int .i64 0], .bool false]) (by simp [results, Tryd.results36, go_sem]) rfl ⟨rfl, ?_⟩
    exact (Below.refl _ _).alloc (Nat.le_refl _) _
  · have n21 : ((t.size : Int) == 21) = false := by simp; omega
    clear h0 h1 h2
    go_enter Tryd.func36, Tryd.ntmps36
    go_wp2
    refine bodyPost_ret (v := .tuple #[.agg #[.int .i64 0, .int .i64 0, .int .i64 0, .int .i64 0, .int .i64 0, .int .i64 0], .bool false]) (by simp [results, Tryd.results36, go_sem]) rfl ⟨rfl, ?_⟩
    exact (Below.refl _ _).alloc (Nat.le_refl _) _

theorem short_bt : ∀ k, k < 20 → bt (⟨#[48, 48, 48, 48, 45, 48, 48, 45, 48, 48, 84, 48, 48, 58, 48, 48, 58, 48, 48, 90]⟩ : ByteArray) k = ((frmS.getD k 0 : Nat) : Int) := by decide +kernel
theorem short_le : ∀ k, k < 20 → frmS.getD k 0 ≤ 127 := by decide
theorem short_prt : ∀ k, k < 20 → frmS.getD k 0 = 48 → partC frmS k < 6 := by decide
theorem short_prt2 : ∀ k, k < 20 + 1 → partC frmS k < 7 := by decide
theorem short_prt3 : ∀ k, k < 20 → partC frmS k < 6 := by decide
theorem short_cv5 : ∀ i, i < 20 + 1 → ∀ j, j < 6 → (cv frmS i).getD j 0 ≤ 5 := by decide
def out_short (t : ByteArray) : Array Value := if allOk frmS t.data.toList = true then intsV (pv frmS t.data.toList 20) else zero6
set_option maxRecDepth 100000 in
set_option maxHeartbeats 4000000 in
theorem parts_short (t : ByteArray) (w : World) (hs : t.size = 20) :
    Calls Tryd.prog 36 #[.string t] w fun e w' => e = .returned (.tuple #[.agg (out_short t), .bool (allOk frmS t.data.toList)]) ∧ Below w.heap.size w w' := by
  have n20 : ((t.size : Int) != 20) = false := by simp; omega
  have n21 : ((t.size : Int) == 21) = false := by simp; omega
  have HBT := Lib.hid (short_bt)
  have hbg := get_bt (⟨#[48, 48, 48, 48, 45, 48, 48, 45, 48, 48, 84, 48, 48, 58, 48, 48, 58, 48, 48, 90]⟩ : ByteArray)
  have hbt := get_bt t
  have HT := Lib.hid hs
  clear hs
  go_enter Tryd.func36, Tryd.ntmps36
  go_wp2
  go_loopw [6] (fun pvv wr => ∃ (k p : Nat) (v : List Nat) (C : Array Value), k ≤ 20 ∧ pvv = .int .i64 p ∧ wr = ((w.alloc (.cells #[.int .i64 0, .int .i64 0, .int .i64 0, .int .i64 0, .int .i64 0, .int .i64 0] 49)).alloc (.cells C 49)).alloc (.stringIter t k) ∧ Hid (C = intsV v) ∧ Hid (v = pv frmS t.data.toList k) ∧ Hid (p = partC frmS k) ∧ Hid (∀ j, j < k → okC (frmS.getD j 0) (t.data.toList.getD j 0) = true)) (fun _ wr => 20 - wr.iterPos (w.heap.size + 1 + 1))
  case atStart => exact ⟨0, 0, [0, 0, 0, 0, 0, 0], _, Nat.zero_le _, rfl, rfl, Lib.hid rfl, Lib.hid rfl, Lib.hid rfl, Lib.hid fun j hj => absurd hj (Nat.not_lt_zero _)⟩
  case round =>
    obtain ⟨k, p, v, C, hk, rfl, rfl, HC, HV, HP, HA⟩ := hrel
    by_cases hlt : k < 20
    · have hlt2 : k < t.size := by have := HT.out; omega
      have hk0 := bt_nonneg t k
      have hp6 : p < 6 := by have := HP.out; have := short_prt3 k hlt; omega
      have hvl : v.length = 6 := by rw [HV.out]; exact pv_len _ _ _
      have HVL := Lib.hid hvl
      clear hvl
      have hbf := HBT.out k hlt
      have hfl := short_le k hlt
      have k2 : (k : Int) < 20 := by omega
      have HLT := Lib.hid hlt
      obtain ⟨f, hf⟩ : ∃ f, frmS.getD k 0 = f := ⟨_, rfl⟩
      rw [hf] at hbf hfl
      have HFK := Lib.hid hf
      clear hf
      have HCH := Lib.hid (bt_chr t k)
      have sz2 : ((w.alloc (.cells #[.int .i64 0, .int .i64 0, .int .i64 0, .int .i64 0, .int .i64 0, .int .i64 0] 49)).alloc (.cells C 49)).heap.size = w.heap.size + 1 + 1 := by simp
      by_cases h128 : bt t k < 128
      · have hnx := fun ty => next_low ((w.alloc (.cells #[.int .i64 0, .int .i64 0, .int .i64 0, .int .i64 0, .int .i64 0, .int .i64 0] 49)).alloc (.cells C 49)) t k hlt2 h128 ty
        rw [sz2] at hnx
        obtain ⟨c, hc⟩ : ∃ c, bt t k = c := ⟨_, rfl⟩
        rw [hc] at hnx hk0 h128 HCH
        clear hc
        by_cases h48 : f = 48
        · have hb1 : (bt (⟨#[48, 48, 48, 48, 45, 48, 48, 45, 48, 48, 84, 48, 48, 58, 48, 48, 58, 48, 48, 90]⟩ : ByteArray) k != 48) = false := by rw [hbf, h48]; rfl
          have H48 := Lib.hid h48
          clear h48 hbf
          by_cases d1 : 48 ≤ c
          · by_cases d2 : c ≤ 57
            · have HD := Lib.hid (show okC (frmS.getD k 0) (t.data.toList.getD k 0) = true by
                rw [HFK.out, H48.out]
                show digB (chr t k) = true
                have := HCH.out
                unfold digB; simp; omega)
              obtain ⟨q, hq⟩ : ∃ q : Nat, v.getD p 0 = q := ⟨_, rfl⟩
              have hq9 : q ≤ 9999 := by
                have h1 := pv_lt frmS t.data.toList k HA.out (fun j hj => short_prt3 j (by omega)) p
                have h2 := pv_lt frmS t.data.toList (k + 1) (fun j hj => if e : j = k then by rw [e]; exact HD.out else HA.out j (by omega)) (fun j hj => short_prt3 j (by omega)) p
                have h3 := short_cv5 (k + 1) (by omega) p hp6
                have h4 : 10 ^ (cv frmS (k + 1)).getD p 0 ≤ 10 ^ 5 := Nat.pow_le_pow_right (by omega) h3
                have h5 : (pv frmS t.data.toList (k + 1)).getD p 0 = 10 * v.getD p 0 + ((t.data.toList.getD k 0).toNat - 48) := by
                  unfold pv
                  rw [if_pos (by rw [HFK.out, H48.out]), ← HP.out, ← HV.out, getD_set _ _ _ _ _ (by rw [HVL.out]; exact hp6), if_pos rfl]
                omega
              have hcq : C[p]? = some (.int .i64 (q : Int)) := by rw [HC.out, intsV_get v p (by rw [HVL.out]; exact hp6), hq]
              have HQ := Lib.hid hq
              clear hq
              have hcs : C.size = 6 := by rw [HC.out, intsV_size, HVL.out]
              have hcg : C[p]'(by omega) = .int .i64 (q : Int) := (Array.getElem?_eq_some_iff.1 hcq).2
              clear hcq
              have p1 : (0 : Int) ≤ (p : Int) := by omega
              have p2 : (p : Int) < 6 := by omega
              go_wp2
              go_roundw
              case rel =>
                exact ⟨k + 1, p, v.set p (10 * q + ((t.data.toList.getD k 0).toNat - 48)), _, by omega, rfl, rfl, Lib.hid (by
                  rw [HC.out, ← intsV_set]
                  congr 2
                  have h1 : c = (((t.data.toList.getD k 0).toNat : Nat) : Int) := HCH.out
                  omega), Lib.hid (by
                  have h1 := HFK.out
                  have h2 := H48.out
                  unfold pv
                  rw [if_pos (by rw [h1, h2]), ← HP.out, ← HV.out, HQ.out]), Lib.hid (by
                  have h1 := HFK.out
                  have h2 := H48.out
                  unfold partC
                  rw [if_pos (by rw [h1, h2]), ← HP.out]), Lib.hid fun j hj => if e : j = k then by rw [e]; exact HD.out else HA.out j (by omega)⟩
              case measure => rw [iterPos_new _ _ _ _ (by simp), iterPos_new _ _ _ _ (by simp)]; omega
            · have HF := Lib.hid (show allOk frmS t.data.toList = false from ok_bad k HLT.out (by
                rw [HFK.out, H48.out]
                show digB (chr t k) = false
                have := HCH.out
                unfold digB; simp; omega))
              go_wp2
              refine bodyPost_ret (v := .tuple #[.agg #[.int .i64 0, .int .i64 0, .int .i64 0, .int .i64 0, .int .i64 0, .int .i64 0], .bool false]) (by simp [results, Tryd.results36, go_sem, World.iter]) rfl ⟨by unfold out_short; rw [if_neg (by rw [HF.out]; decide), HF.out]; rfl, ?_⟩
              exact below_allocs [_, _, _] _ _ _ (Below.refl _ _) (Nat.le_refl _)
          · have HF := Lib.hid (show allOk frmS t.data.toList = false from ok_bad k HLT.out (by
              rw [HFK.out, H48.out]
              show digB (chr t k) = false
              have := HCH.out
              unfold digB; simp; omega))
            go_wp2
            refine bodyPost_ret (v := .tuple #[.agg #[.int .i64 0, .int .i64 0, .int .i64 0, .int .i64 0, .int .i64 0, .int .i64 0], .bool false]) (by simp [results, Tryd.results36, go_sem, World.iter]) rfl ⟨by unfold out_short; rw [if_neg (by rw [HF.out]; decide), HF.out]; rfl, ?_⟩
            exact below_allocs [_, _, _] _ _ _ (Below.refl _ _) (Nat.le_refl _)
        · have H48 := Lib.hid h48
          have hb1 : ((f : Int) != 48) = true := by simp; omega
          have f0 : (0 : Int) ≤ (f : Int) := by omega
          have f1 : (f : Int) ≤ 127 := by omega
          clear h48
          by_cases hcf : c = (f : Int)
          · have HD := Lib.hid (show okC (frmS.getD k 0) (t.data.toList.getD k 0) = true by
              unfold okC
              rw [HFK.out, if_neg H48.out]
              have h1 : c = (((t.data.toList.getD k 0).toNat : Nat) : Int) := HCH.out
              exact decide_eq_true (by omega))
            have hb2 : (c != (f : Int)) = false := by simp; exact hcf
            clear hcf
            go_wp2
            go_roundw
            case rel =>
              exact ⟨k + 1, p + 1, v, C, by omega, by go_num, rfl, HC, Lib.hid (by
                have h1 := HFK.out
                have h2 := H48.out
                unfold pv
                rw [if_neg (by rw [h1]; exact h2), ← HV.out]), Lib.hid (by
                have h1 := HFK.out
                have h2 := H48.out
                unfold partC
                rw [if_neg (by rw [h1]; exact h2), ← HP.out]), Lib.hid fun j hj => if e : j = k then by rw [e]; exact HD.out else HA.out j (by omega)⟩
            case measure => rw [iterPos_new _ _ _ _ (by simp), iterPos_new _ _ _ _ (by simp)]; omega
          · have HF := Lib.hid (show allOk frmS t.data.toList = false from ok_bad k HLT.out (by
              unfold okC
              rw [HFK.out, if_neg H48.out]
              have h1 : c = (((t.data.toList.getD k 0).toNat : Nat) : Int) := HCH.out
              exact decide_eq_false (by omega)))
            have hb2 : (c != (f : Int)) = true := by simp; exact hcf
            clear hcf
            go_wp2
            refine bodyPost_ret (v := .tuple #[.agg #[.int .i64 0, .int .i64 0, .int .i64 0, .int .i64 0, .int .i64 0, .int .i64 0], .bool false]) (by simp [results, Tryd.results36, go_sem, World.iter]) rfl ⟨by unfold out_short; rw [if_neg (by rw [HF.out]; decide), HF.out]; rfl, ?_⟩
            exact below_allocs [_, _, _] _ _ _ (Below.refl _ _) (Nat.le_refl _)
      · obtain ⟨r, d, hr, hd, hnx⟩ := next_high ((w.alloc (.cells #[.int .i64 0, .int .i64 0, .int .i64 0, .int .i64 0, .int .i64 0, .int .i64 0] 49)).alloc (.cells C 49)) t k hlt2 (by omega)
        rw [sz2] at hnx
        have HF := Lib.hid (show allOk frmS t.data.toList = false from ok_bad k HLT.out (by
          have h1 : bt t k = (((t.data.toList.getD k 0).toNat : Nat) : Int) := HCH.out
          generalize t.data.toList.getD k 0 = ch at h1 ⊢
          unfold okC
          rw [HFK.out]
          split
          · unfold digB; simp; omega
          · exact decide_eq_false (by omega)))
        clear h128
        by_cases h48 : f = 48
        · have hb1 : (bt (⟨#[48, 48, 48, 48, 45, 48, 48, 45, 48, 48, 84, 48, 48, 58, 48, 48, 58, 48, 48, 90]⟩ : ByteArray) k != 48) = false := by rw [hbf, h48]; rfl
          have hr1 : 48 ≤ r := by omega
          have hr2 : ¬ r ≤ 57 := by omega
          clear h48 hbf
          go_wp2
          refine bodyPost_ret (v := .tuple #[.agg #[.int .i64 0, .int .i64 0, .int .i64 0, .int .i64 0, .int .i64 0, .int .i64 0], .bool false]) (by simp [results, Tryd.results36, go_sem, World.iter]) rfl ⟨by unfold out_short; rw [if_neg (by rw [HF.out]; decide), HF.out]; rfl, ?_⟩
          exact below_allocs [_, _, _] _ _ _ (Below.refl _ _) (Nat.le_refl _)
        · have hb1 : ((f : Int) != 48) = true := by simp; omega
          have f0 : (0 : Int) ≤ (f : Int) := by omega
          have f1 : (f : Int) ≤ 127 := by omega
          have hb2 : (r != (f : Int)) = true := by simp; omega
          clear h48
          go_wp2
          refine bodyPost_ret (v := .tuple #[.agg #[.int .i64 0, .int .i64 0, .int .i64 0, .int .i64 0, .int .i64 0, .int .i64 0], .bool false]) (by simp [results, Tryd.results36, go_sem, World.iter]) rfl ⟨by unfold out_short; rw [if_neg (by rw [HF.out]; decide), HF.out]; rfl, ?_⟩
          exact below_allocs [_, _, _] _ _ _ (Below.refl _ _) (Nat.le_refl _)
    · have hkn : k = 20 := by omega
      have hnl : ¬ k < t.size := by have := HT.out; omega
      have sz2 : ((w.alloc (.cells #[.int .i64 0, .int .i64 0, .int .i64 0, .int .i64 0, .int .i64 0, .int .i64 0] 49)).alloc (.cells C 49)).heap.size = w.heap.size + 1 + 1 := by simp
      have HT1 := Lib.hid (show allOk frmS t.data.toList = true from ok_all (fun j hj => HA.out j (by
        have : frmS.length = 20 := rfl
        omega)))
      have HO := Lib.hid (show C = out_short t by
        unfold out_short
        rw [HT1.out, if_pos rfl, ← hkn, ← HV.out]; exact HC.out)
      obtain ⟨v0, v1, v2, v3, v4, v5, hv6⟩ := six v (by rw [HV.out]; exact pv_len _ _ _)
      have hC : C = #[.int .i64 (v0 : Int), .int .i64 (v1 : Int), .int .i64 (v2 : Int), .int .i64 (v3 : Int), .int .i64 (v4 : Int), .int .i64 (v5 : Int)] := by rw [HC.out, hv6]; rfl
      clear hkn hv6
      subst hC
      have hnx := fun ty => next_end ((w.alloc (.cells #[.int .i64 0, .int .i64 0, .int .i64 0, .int .i64 0, .int .i64 0, .int .i64 0] 49)).alloc (.cells #[.int .i64 (v0 : Int), .int .i64 (v1 : Int), .int .i64 (v2 : Int), .int .i64 (v3 : Int), .int .i64 (v4 : Int), .int .i64 (v5 : Int)] 49)) t k hnl ty
      rw [sz2] at hnx
      go_wp2
      refine bodyPost_ret (v := .tuple #[.agg #[.int .i64 (v0 : Int), .int .i64 (v1 : Int), .int .i64 (v2 : Int), .int .i64 (v3 : Int), .int .i64 (v4 : Int), .int .i64 (v5 : Int)], .bool true]) (by simp [results, Tryd.results36, go_sem, World.iter]) rfl ⟨by rw [← HO.out, HT1.out], ?_⟩
      exact below_allocs [_, _, _] _ _ _ (Below.refl _ _) (Nat.le_refl _)

theorem long_bt : ∀ k, k < 21 → bt (⟨#[48, 48, 48, 48, 48, 45, 48, 48, 45, 48, 48, 84, 48, 48, 58, 48, 48, 58, 48, 48, 90]⟩ : ByteArray) k = ((frmN.getD k 0 : Nat) : Int) := by decide +kernel
theorem long_le : ∀ k, k < 21 → frmN.getD k 0 ≤ 127 := by decide
theorem long_prt : ∀ k, k < 21 → frmN.getD k 0 = 48 → partC frmN k < 6 := by decide
theorem long_prt2 : ∀ k, k < 21 + 1 → partC frmN k < 7 := by decide
theorem long_prt3 : ∀ k, k < 21 → partC frmN k < 6 := by decide
theorem long_cv5 : ∀ i, i < 21 + 1 → ∀ j, j < 6 → (cv frmN i).getD j 0 ≤ 5 := by decide
def out_long (t : ByteArray) : Array Value := if allOk frmN t.data.toList = true then intsV (pv frmN t.data.toList 21) else zero6
set_option maxRecDepth 100000 in
set_option maxHeartbeats 4000000 in
theorem parts_long (t : ByteArray) (w : World) (hs : t.size = 21) (hz : bt t 0 ≠ 48) :
    Calls Tryd.prog 36 #[.string t] w fun e w' => e = .returned (.tuple #[.agg (out_long t), .bool (allOk frmN t.data.toList)]) ∧ Below w.heap.size w w' := by
  have n20 : ((t.size : Int) != 21) = false := by simp; omega
  have n21 : ((t.size : Int) == 21) = true := by simp; omega
  have hb0 : (bt t 0 != 48) = true := by simp; exact hz
  have hpos : 0 < t.size := by omega
  have HZ := Lib.hid hz
  clear hz
  have HBT := Lib.hid (long_bt)
  have hbg := get_bt (⟨#[48, 48, 48, 48, 48, 45, 48, 48, 45, 48, 48, 84, 48, 48, 58, 48, 48, 58, 48, 48, 90]⟩ : ByteArray)
  have hbt := get_bt t
  have HT := Lib.hid hs
  clear hs
  go_enter Tryd.func36, Tryd.ntmps36
  go_wp2
  go_loopw [6] (fun pvv wr => ∃ (k p : Nat) (v : List Nat) (C : Array Value), k ≤ 21 ∧ pvv = .int .i64 p ∧ wr = ((w.alloc (.cells #[.int .i64 0, .int .i64 0, .int .i64 0, .int .i64 0, .int .i64 0, .int .i64 0] 49)).alloc (.cells C 49)).alloc (.stringIter t k) ∧ Hid (C = intsV v) ∧ Hid (v = pv frmN t.data.toList k) ∧ Hid (p = partC frmN k) ∧ Hid (∀ j, j < k → okC (frmN.getD j 0) (t.data.toList.getD j 0) = true)) (fun _ wr => 21 - wr.iterPos (w.heap.size + 1 + 1))
  case atStart => exact ⟨0, 0, [0, 0, 0, 0, 0, 0], _, Nat.zero_le _, rfl, rfl, Lib.hid rfl, Lib.hid rfl, Lib.hid rfl, Lib.hid fun j hj => absurd hj (Nat.not_lt_zero _)⟩
  case round =>
    obtain ⟨k, p, v, C, hk, rfl, rfl, HC, HV, HP, HA⟩ := hrel
    by_cases hlt : k < 21
    · have hlt2 : k < t.size := by have := HT.out; omega
      have hk0 := bt_nonneg t k
      have hp6 : p < 6 := by have := HP.out; have := long_prt3 k hlt; omega
      have hvl : v.length = 6 := by rw [HV.out]; exact pv_len _ _ _
      have HVL := Lib.hid hvl
      clear hvl
      have hbf := HBT.out k hlt
      have hfl := long_le k hlt
      have k2 : (k : Int) < 21 := by omega
      have HLT := Lib.hid hlt
      obtain ⟨f, hf⟩ : ∃ f, frmN.getD k 0 = f := ⟨_, rfl⟩
      rw [hf] at hbf hfl
      have HFK := Lib.hid hf
      clear hf
      have HCH := Lib.hid (bt_chr t k)
      have sz2 : ((w.alloc (.cells #[.int .i64 0, .int .i64 0, .int .i64 0, .int .i64 0, .int .i64 0, .int .i64 0] 49)).alloc (.cells C 49)).heap.size = w.heap.size + 1 + 1 := by simp
      by_cases h128 : bt t k < 128
      · have hnx := fun ty => next_low ((w.alloc (.cells #[.int .i64 0, .int .i64 0, .int .i64 0, .int .i64 0, .int .i64 0, .int .i64 0] 49)).alloc (.cells C 49)) t k hlt2 h128 ty
        rw [sz2] at hnx
        obtain ⟨c, hc⟩ : ∃ c, bt t k = c := ⟨_, rfl⟩
        rw [hc] at hnx hk0 h128 HCH
        clear hc
        by_cases h48 : f = 48
        · have hb1 : (bt (⟨#[48, 48, 48, 48, 48, 45, 48, 48, 45, 48, 48, 84, 48, 48, 58, 48, 48, 58, 48, 48, 90]⟩ : ByteArray) k != 48) = false := by rw [hbf, h48]; rfl
          have H48 := Lib.hid h48
          clear h48 hbf
          by_cases d1 : 48 ≤ c
          · by_cases d2 : c ≤ 57
            · have HD := Lib.hid (show okC (frmN.getD k 0) (t.data.toList.getD k 0) = true by
                rw [HFK.out, H48.out]
                show digB (chr t k) = true
                have := HCH.out
                unfold digB; simp; omega)
              obtain ⟨q, hq⟩ : ∃ q : Nat, v.getD p 0 = q := ⟨_, rfl⟩
              have hq9 : q ≤ 9999 := by
                have h1 := pv_lt frmN t.data.toList k HA.out (fun j hj => long_prt3 j (by omega)) p
                have h2 := pv_lt frmN t.data.toList (k + 1) (fun j hj => if e : j = k then by rw [e]; exact HD.out else HA.out j (by omega)) (fun j hj => long_prt3 j (by omega)) p
                have h3 := long_cv5 (k + 1) (by omega) p hp6
                have h4 : 10 ^ (cv frmN (k + 1)).getD p 0 ≤ 10 ^ 5 := Nat.pow_le_pow_right (by omega) h3
                have h5 : (pv frmN t.data.toList (k + 1)).getD p 0 = 10 * v.getD p 0 + ((t.data.toList.getD k 0).toNat - 48) := by
                  unfold pv
                  rw [if_pos (by rw [HFK.out, H48.out]), ← HP.out, ← HV.out, getD_set _ _ _ _ _ (by rw [HVL.out]; exact hp6), if_pos rfl]
                omega
              have hcq : C[p]? = some (.int .i64 (q : Int)) := by rw [HC.out, intsV_get v p (by rw [HVL.out]; exact hp6), hq]
              have HQ := Lib.hid hq
              clear hq
              have hcs : C.size = 6 := by rw [HC.out, intsV_size, HVL.out]
              have hcg : C[p]'(by omega) = .int .i64 (q : Int) := (Array.getElem?_eq_some_iff.1 hcq).2
              clear hcq
              have p1 : (0 : Int) ≤ (p : Int) := by omega
              have p2 : (p : Int) < 6 := by omega
              go_wp2
              go_roundw
              case rel =>
                exact ⟨k + 1, p, v.set p (10 * q + ((t.data.toList.getD k 0).toNat - 48)), _, by omega, rfl, rfl, Lib.hid (by
                  rw [HC.out, ← intsV_set]
                  congr 2
                  have h1 : c = (((t.data.toList.getD k 0).toNat : Nat) : Int) := HCH.out
                  omega), Lib.hid (by
                  have h1 := HFK.out
                  have h2 := H48.out
                  unfold pv
                  rw [if_pos (by rw [h1, h2]), ← HP.out, ← HV.out, HQ.out]), Lib.hid (by
                  have h1 := HFK.out
                  have h2 := H48.out
                  unfold partC
                  rw [if_pos (by rw [h1, h2]), ← HP.out]), Lib.hid fun j hj => if e : j = k then by rw [e]; exact HD.out else HA.out j (by omega)⟩
              case measure => rw [iterPos_new _ _ _ _ (by simp), iterPos_new _ _ _ _ (by simp)]; omega
            · have HF := Lib.hid (show allOk frmN t.data.toList = false from ok_bad k HLT.out (by
                rw [HFK.out, H48.out]
                show digB (chr t k) = false
                have := HCH.out
                unfold digB; simp; omega))
              go_wp2
              refine bodyPost_ret (v := .tuple #[.agg #[.int .i64 0, .int .i64 0, .int .i64 0, .int .i64 0, .int .i64 0, .int .i64 0], .bool false]) (by simp [results, Tryd.results36, go_sem, World.iter]) rfl ⟨by unfold out_long; rw [if_neg (by rw [HF.out]; decide), HF.out]; rfl, ?_⟩
              exact below_allocs [_, _, _] _ _ _ (Below.refl _ _) (Nat.le_refl _)
          · have HF := Lib.hid (show allOk frmN t.data.toList = false from ok_bad k HLT.out (by
              rw [HFK.out, H48.out]
              show digB (chr t k) = false
              have := HCH.out
              unfold digB; simp; omega))
            go_wp2
            refine bodyPost_ret (v := .tuple #[.agg #[.int .i64 0, .int .i64 0, .int .i64 0, .int .i64 0, .int .i64 0, .int .i64 0], .bool false]) (by simp [results, Tryd.results36, go_sem, World.iter]) rfl ⟨by unfold out_long; rw [if_neg (by rw [HF.out]; decide), HF.out]; rfl, ?_⟩
            exact below_allocs [_, _, _] _ _ _ (Below.refl _ _) (Nat.le_refl _)
        · have H48 := Lib.hid h48
          have hb1 : ((f : Int) != 48) = true := by simp; omega
          have f0 : (0 : Int) ≤ (f : Int) := by omega
          have f1 : (f : Int) ≤ 127 := by omega
          clear h48
          by_cases hcf : c = (f : Int)
          · have HD := Lib.hid (show okC (frmN.getD k 0) (t.data.toList.getD k 0) = true by
              unfold okC
              rw [HFK.out, if_neg H48.out]
              have h1 : c = (((t.data.toList.getD k 0).toNat : Nat) : Int) := HCH.out
              exact decide_eq_true (by omega))
            have hb2 : (c != (f : Int)) = false := by simp; exact hcf
            clear hcf
            go_wp2
            go_roundw
            case rel =>
              exact ⟨k + 1, p + 1, v, C, by omega, by go_num, rfl, HC, Lib.hid (by
                have h1 := HFK.out
                have h2 := H48.out
                unfold pv
                rw [if_neg (by rw [h1]; exact h2), ← HV.out]), Lib.hid (by
                have h1 := HFK.out
                have h2 := H48.out
                unfold partC
                rw [if_neg (by rw [h1]; exact h2), ← HP.out]), Lib.hid fun j hj => if e : j = k then by rw [e]; exact HD.out else HA.out j (by omega)⟩
            case measure => rw [iterPos_new _ _ _ _ (by simp), iterPos_new _ _ _ _ (by simp)]; omega
          · have HF := Lib.hid (show allOk frmN t.data.toList = false from ok_bad k HLT.out (by
              unfold okC
              rw [HFK.out, if_neg H48.out]
              have h1 : c = (((t.data.toList.getD k 0).toNat : Nat) : Int) := HCH.out
              exact decide_eq_false (by omega)))
            have hb2 : (c != (f : Int)) = true := by simp; exact hcf
            clear hcf
            go_wp2
            refine bodyPost_ret (v := .tuple #[.agg #[.int .i64 0, .int .i64 0, .int .i64 0, .int .i64 0, .int .i64 0, .int .i64 0], .bool false]) (by simp [results, Tryd.results36, go_sem, World.iter]) rfl ⟨by unfold out_long; rw [if_neg (by rw [HF.out]; decide), HF.out]; rfl, ?_⟩
            exact below_allocs [_, _, _] _ _ _ (Below.refl _ _) (Nat.le_refl _)
      · obtain ⟨r, d, hr, hd, hnx⟩ := next_high ((w.alloc (.cells #[.int .i64 0, .int .i64 0, .int .i64 0, .int .i64 0, .int .i64 0, .int .i64 0] 49)).alloc (.cells C 49)) t k hlt2 (by omega)
        rw [sz2] at hnx
        have HF := Lib.hid (show allOk frmN t.data.toList = false from ok_bad k HLT.out (by
          have h1 : bt t k = (((t.data.toList.getD k 0).toNat : Nat) : Int) := HCH.out
          generalize t.data.toList.getD k 0 = ch at h1 ⊢
          unfold okC
          rw [HFK.out]
          split
          · unfold digB; simp; omega
          · exact decide_eq_false (by omega)))
        clear h128
        by_cases h48 : f = 48
        · have hb1 : (bt (⟨#[48, 48, 48, 48, 48, 45, 48, 48, 45, 48, 48, 84, 48, 48, 58, 48, 48, 58, 48, 48, 90]⟩ : ByteArray) k != 48) = false := by rw [hbf, h48]; rfl
          have hr1 : 48 ≤ r := by omega
          have hr2 : ¬ r ≤ 57 := by omega
          clear h48 hbf
          go_wp2
          refine bodyPost_ret (v := .tuple #[.agg #[.int .i64 0, .int .i64 0, .int .i64 0, .int .i64 0, .int .i64 0, .int .i64 0], .bool false]) (by simp [results, Tryd.results36, go_sem, World.iter]) rfl ⟨by unfold out_long; rw [if_neg (by rw [HF.out]; decide), HF.out]; rfl, ?_⟩
          exact below_allocs [_, _, _] _ _ _ (Below.refl _ _) (Nat.le_refl _)
        · have hb1 : ((f : Int) != 48) = true := by simp; omega
          have f0 : (0 : Int) ≤ (f : Int) := by omega
          have f1 : (f : Int) ≤ 127 := by omega
          have hb2 : (r != (f : Int)) = true := by simp; omega
          clear h48
          go_wp2
          refine bodyPost_ret (v := .tuple #[.agg #[.int .i64 0, .int .i64 0, .int .i64 0, .int .i64 0, .int .i64 0, .int .i64 0], .bool false]) (by simp [results, Tryd.results36, go_sem, World.iter]) rfl ⟨by unfold out_long; rw [if_neg (by rw [HF.out]; decide), HF.out]; rfl, ?_⟩
          exact below_allocs [_, _, _] _ _ _ (Below.refl _ _) (Nat.le_refl _)
    · have hkn : k = 21 := by omega
      have hnl : ¬ k < t.size := by have := HT.out; omega
      have sz2 : ((w.alloc (.cells #[.int .i64 0, .int .i64 0, .int .i64 0, .int .i64 0, .int .i64 0, .int .i64 0] 49)).alloc (.cells C 49)).heap.size = w.heap.size + 1 + 1 := by simp
      have HT1 := Lib.hid (show allOk frmN t.data.toList = true from ok_all (fun j hj => HA.out j (by
        have : frmN.length = 21 := rfl
        omega)))
      have HO := Lib.hid (show C = out_long t by
        unfold out_long
        rw [HT1.out, if_pos rfl, ← hkn, ← HV.out]; exact HC.out)
      obtain ⟨v0, v1, v2, v3, v4, v5, hv6⟩ := six v (by rw [HV.out]; exact pv_len _ _ _)
      have hC : C = #[.int .i64 (v0 : Int), .int .i64 (v1 : Int), .int .i64 (v2 : Int), .int .i64 (v3 : Int), .int .i64 (v4 : Int), .int .i64 (v5 : Int)] := by rw [HC.out, hv6]; rfl
      clear hkn hv6
      subst hC
      have hnx := fun ty => next_end ((w.alloc (.cells #[.int .i64 0, .int .i64 0, .int .i64 0, .int .i64 0, .int .i64 0, .int .i64 0] 49)).alloc (.cells #[.int .i64 (v0 : Int), .int .i64 (v1 : Int), .int .i64 (v2 : Int), .int .i64 (v3 : Int), .int .i64 (v4 : Int), .int .i64 (v5 : Int)] 49)) t k hnl ty
      rw [sz2] at hnx
      go_wp2
      refine bodyPost_ret (v := .tuple #[.agg #[.int .i64 (v0 : Int), .int .i64 (v1 : Int), .int .i64 (v2 : Int), .int .i64 (v3 : Int), .int .i64 (v4 : Int), .int .i64 (v5 : Int)], .bool true]) (by simp [results, Tryd.results36, go_sem, World.iter]) rfl ⟨by rw [← HO.out, HT1.out], ?_⟩
      exact below_allocs [_, _, _] _ _ _ (Below.refl _ _) (Nat.le_refl _)

end Go.Proofs.YtnncfifpgjlpaabDoor
