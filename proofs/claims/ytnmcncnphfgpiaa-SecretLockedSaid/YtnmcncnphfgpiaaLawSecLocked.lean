/-
  Proved: identitylaw22.SecretLocked returns true for all arguments. No condition beyond the row's own.
-/
import Derived.Test.YtnmcncnphfgpiaaSecLaws
import Derived.Deep.RegionHeld3
set_option linter.unusedVariables false
set_option linter.unusedSimpArgs false
set_option linter.unnecessarySimpa false
namespace Go.Proofs.Ytnmcncnphfgpiaa
open Go.ChangeShapes Go.WideShapes Go.ChangeAt Go.RowKit Go.PlainAid
open Go.ChangeMaps (open_string shut_string)

theorem word_ann : wordB sAnn = true := by decide +kernel
theorem limI_in {t : Int} (h0 : 0 ≤ t) (h1 : t ≤ 1099511627776) : limI t = t := by unfold limI; omega
theorem addI_in {a b : Int} (h0 : 0 ≤ a) (h1 : 0 ≤ b) (h2 : a + b ≤ 1099511627776) : addI a b = a + b := by unfold addI limI; omega
theorem lastN_few {l : List Int} (h : l.length ≤ 256) : lastN l = l := by unfold lastN; rw [show l.length - 256 = 0 by omega]; rfl
theorem cntF_rep {win n : Int} (h : 1 ≤ win) : ∀ i, cntF win (List.replicate i n) n = i
  | 0 => rfl
  | i + 1 => by
    rw [List.replicate_succ', cntF_snoc, cntF_rep h i, if_pos ⟨Int.le_refl _, by omega⟩]
theorem failA_one {most win lock : Int} {A : Us} {now : Int} {r : Rc} (hA : (usO A sAnn).isSome = true ∨ A.length < 256) (hr : curR A sAnn = r) : failA most win lock A sAnn now = usSet A sAnn (failR most win lock r (limI now)) := by
  rw [failA_main word_ann hA, hr]
/-- the users behind i failures of ann at one instant -/
def lkU (most now lock : Int) (i : Nat) : Us := if i = 0 then [] else [(sAnn, (List.replicate i now, if most ≤ (i : Int) then now + lock else 0))]
theorem lkU_cur (most now lock : Int) (i : Nat) (h : ¬ most ≤ (i : Int)) : curR (lkU most now lock i) sAnn = (List.replicate i now, 0) := by
  unfold lkU curR
  by_cases h0 : i = 0
  · subst h0; rfl
  · rw [if_neg h0, if_neg h]
    show (if sAnn = sAnn then _ else _ : Option Rc).getD _ = _
    rw [if_pos rfl]; rfl
theorem lkU_next {most win now lock : Int} {i : Nat} (hi : (i : Int) < most) (hm : most ≤ 40) (hw : 1 ≤ win) (h0 : 0 ≤ now) (h1 : now ≤ 1073741824) (l0 : 1 ≤ lock) (l1 : lock ≤ 1073741824) :
    failA most win lock (lkU most now lock i) sAnn now = lkU most now lock (i + 1) := by
  have hA : (usO (lkU most now lock i) sAnn).isSome = true ∨ (lkU most now lock i).length < 256 := by
    unfold lkU
    split
    · exact .inr (by decide)
    · exact .inr (by simp)
  rw [failA_one hA (lkU_cur most now lock i (by omega)), limI_in h0 (by omega)]
  have hR : failR most win lock (List.replicate i now, 0) now = (List.replicate (i + 1) now, if most ≤ ((i + 1 : Nat) : Int) then now + lock else 0) := by
    unfold failR
    dsimp only
    rw [← List.replicate_succ', lastN_few (by rw [List.length_replicate]; omega), cntF_rep hw, addI_in h0 (by omega) (by omega)]
    by_cases h : most ≤ ((i + 1 : Nat) : Int)
    · rw [if_pos (.inl h), if_pos h]
      congr 1; omega
    · rw [if_neg (by rintro (k | k); exact h k; omega), if_neg h]
  rw [hR]
  unfold lkU
  rw [if_neg (by omega : ¬ i + 1 = 0)]
  by_cases e : i = 0
  · subst e; rfl
  · rw [if_neg e]
    unfold usSet usO
    rw [if_pos rfl]
    simp
theorem lkU_open {most now lock : Int} {i : Nat} (hi : (i : Int) < most) (h0 : 0 ≤ now) : lockedA (lkU most now lock i) sAnn now = false := by
  rw [locked_is, lkU_cur most now lock i (by omega)]
  have := limI_bd now
  exact decide_eq_false (by dsimp only; omega)
def lk1 (l : List Int) (z : Int) : Us := [(sAnn, (l, z))]
theorem lkU_full {most now lock : Int} {i : Nat} (h0 : 1 ≤ i) (h : most ≤ (i : Int)) : lkU most now lock i = lk1 (List.replicate i now) (now + lock) := by
  unfold lkU lk1; rw [if_neg (by omega), if_pos h]
theorem lk1_ann (l : List Int) (z : Int) : curR (lk1 l z) sAnn = (l, z) := by
  unfold curR lk1
  show (if sAnn = sAnn then _ else _ : Option Rc).getD _ = _
  rw [if_pos rfl]; rfl
theorem lk1_bob (l : List Int) (z : Int) : curR (lk1 l z) sBob = ([], 0) := by
  unfold curR lk1
  show (if sBob = sAnn then _ else _ : Option Rc).getD _ = _
  rw [if_neg (by decide)]; rfl
theorem lk1_lock {l : List Int} {z t : Int} {x : Bool} (h0 : 0 ≤ t) (h1 : t ≤ 1099511627776) (hx : decide (t < z) = x) : lockedA (lk1 l z) sAnn t = x := by
  rw [locked_is, lk1_ann, limI_in h0 h1]; exact hx
theorem lk1_lockb (l : List Int) (z t : Int) : lockedA (lk1 l z) sBob t = false := by
  rw [locked_is, lk1_bob]
  have := limI_bd t
  exact decide_eq_false (by dsimp only; omega)
theorem lk1_failb (win : Int) (l : List Int) (z t : Int) : failsA win (lk1 l z) sBob t = 0 := by
  show cntF win (curR (lk1 l z) sBob).1 _ = 0
  rw [lk1_bob]; rfl
theorem lk1_more {most win lock t z : Int} {l : List Int} (hl : l.length ≤ 100) (h0 : 0 ≤ t) (h1 : t < z) (l0 : 1 ≤ lock) (hz : z ≤ t + lock) (h2 : t + lock ≤ 1099511627776) : failA most win lock (lk1 l z) sAnn t = lk1 (l ++ [t]) (t + lock) := by
  rw [failA_one (A := lk1 l z) (.inr (show (1 : Nat) < 256 by decide)) (lk1_ann l z), limI_in h0 (by omega)]
  have hR : failR most win lock (l, z) t = (l ++ [t], t + lock) := by
    unfold failR
    dsimp only
    rw [lastN_few (by rw [List.length_append]; simp; omega), addI_in h0 (by omega) h2, if_pos (.inr h1)]
    congr 1; omega
  rw [hR]
  have hs : (usO (lk1 l z) sAnn).isSome = true := by
    show (if sAnn = sAnn then some (l, z) else none : Option Rc).isSome = true
    rw [if_pos rfl]; rfl
  unfold usSet
  rw [if_pos hs]
  unfold lk1; simp
theorem lk1_cb (l : List Int) (z : Int) : clearA (lk1 l z) sBob = lk1 l z := by
  unfold clearA lk1
  rw [List.filter_cons_of_pos (by show decide (sAnn ≠ sBob) = true; decide)]; rfl
theorem lk1_ca (l : List Int) (z : Int) : clearA (lk1 l z) sAnn = [] := by
  unfold clearA lk1
  rw [List.filter_cons_of_neg (by simp)]; rfl
theorem lk0_lock (t : Int) : lockedA [] sAnn t = false := by
  rw [locked_is]
  have := limI_bd t
  exact decide_eq_false (by show ¬ limI t < 0; omega)
theorem lk0_fail (win t : Int) : failsA win [] sAnn t = 0 := rfl
set_option maxRecDepth 100000 in
set_option maxHeartbeats 16000000 in
theorem lslocked_s (most : Int) (win : Int) (lock : Int) (now : Int) (later : Int) (W : World) (Mmost : -9223372036854775808 ≤ most ∧ most ≤ 9223372036854775807) (Mwin : -9223372036854775808 ≤ win ∧ win ≤ 9223372036854775807) (Mlock : -9223372036854775808 ≤ lock ∧ lock ≤ 9223372036854775807) (Mnow : -9223372036854775808 ≤ now ∧ now ≤ 9223372036854775807) (Mlater : -9223372036854775808 ≤ later ∧ later ≤ 9223372036854775807) (ho : MaxOk W) :
    Calls Try.prog 8 #[.int .i64 most, .int .i64 win, .int .i64 lock, .int .i64 now, .int .i64 later] W fun e w' => e = .returned (.bool true) ∧ Below W.heap.size W w' := by
  have HO := Lib.hid ho
  clear ho Mmost Mwin Mlock Mnow Mlater
  by_cases g0 : most < 1
  · go_enter Try.func8, Try.ntmps8
    go_wp2_with fail
    refine (awake_s _ HO.out).mono ?_
    rintro e w1 ⟨rfl, hb⟩
    go_wp2_with fail
    go_ret
    exact ⟨rfl, hb⟩
  by_cases g1 : 40 < most
  · go_enter Try.func8, Try.ntmps8
    go_wp2_with fail
    refine (awake_s _ HO.out).mono ?_
    rintro e w1 ⟨rfl, hb⟩
    go_wp2_with fail
    go_ret
    exact ⟨rfl, hb⟩
  by_cases g2 : now < 0
  · go_enter Try.func8, Try.ntmps8
    go_wp2_with fail
    refine (awake_s _ HO.out).mono ?_
    rintro e w1 ⟨rfl, hb⟩
    go_wp2_with fail
    go_ret
    exact ⟨rfl, hb⟩
  by_cases g3 : 1073741824 < now
  · go_enter Try.func8, Try.ntmps8
    go_wp2_with fail
    refine (awake_s _ HO.out).mono ?_
    rintro e w1 ⟨rfl, hb⟩
    go_wp2_with fail
    go_ret
    exact ⟨rfl, hb⟩
  by_cases g4 : lock < 1
  · go_enter Try.func8, Try.ntmps8
    go_wp2_with fail
    refine (awake_s _ HO.out).mono ?_
    rintro e w1 ⟨rfl, hb⟩
    go_wp2_with fail
    go_ret
    exact ⟨rfl, hb⟩
  by_cases g5 : 1073741824 < lock
  · go_enter Try.func8, Try.ntmps8
    go_wp2_with fail
    refine (awake_s _ HO.out).mono ?_
    rintro e w1 ⟨rfl, hb⟩
    go_wp2_with fail
    go_ret
    exact ⟨rfl, hb⟩
  by_cases g6 : win < 1
  · go_enter Try.func8, Try.ntmps8
    go_wp2_with fail
    refine (awake_s _ HO.out).mono ?_
    rintro e w1 ⟨rfl, hb⟩
    go_wp2_with fail
    go_ret
    exact ⟨rfl, hb⟩
  by_cases g7 : later < 0
  · go_enter Try.func8, Try.ntmps8
    go_wp2_with fail
    refine (awake_s _ HO.out).mono ?_
    rintro e w1 ⟨rfl, hb⟩
    go_wp2_with fail
    go_ret
    exact ⟨rfl, hb⟩
  by_cases g8 : lock ≤ later
  · go_enter Try.func8, Try.ntmps8
    go_wp2_with fail
    refine (awake_s _ HO.out).mono ?_
    rintro e w1 ⟨rfl, hb⟩
    go_wp2_with fail
    go_ret
    exact ⟨rfl, hb⟩
  obtain ⟨m, hm⟩ : ∃ m : Nat, most = (m : Int) := ⟨most.toNat, by omega⟩
  subst hm
  obtain ⟨x, hx⟩ : ∃ x, limI win = x := ⟨_, rfl⟩
  have hx1 : 1 ≤ x ∧ x ≤ 1099511627776 := by subst hx; have := limI_bd win; refine ⟨?_, this.2⟩; unfold limI; omega
  have HX := Lib.hid hx
  have HLo := Lib.hid (show limI lock = lock from limI_in (by omega) (by omega))
  have HN : Hid (LkN (m : Int) x lock) := Lib.hid ⟨by omega, by omega, hx1.1, hx1.2, by omega, by show lock ≤ 1099511627776; omega⟩
  have HNx : Hid (∀ i : Nat, i < m → failA m x lock (lkU m now lock i) sAnn now = lkU m now lock (i + 1)) := Lib.hid fun i hi => lkU_next (by omega) (by omega) hx1.1 (by omega) (by omega) (by omega) (by omega)
  have HOp : Hid (∀ i : Nat, i < m → lockedA (lkU m now lock i) sAnn now = false) := Lib.hid fun i hi => lkU_open (by omega) (by omega)
  have HFu := Lib.hid (lkU_full (most := (m : Int)) (now := now) (lock := lock) (i := m) (by omega) (Int.le_refl _))
  obtain ⟨l1, hl1⟩ : ∃ l, List.replicate m now = l := ⟨_, rfl⟩
  have hl1n : l1.length ≤ 40 := by rw [← hl1, List.length_replicate]; omega
  rw [hl1] at HFu
  have HB1 := Lib.hid (lk1_lock (l := l1) (z := now + lock) (t := now) (x := true) (by omega) (by omega) (decide_eq_true (by omega)))
  have HB2 := Lib.hid (lk1_lock (l := l1) (z := now + lock) (t := now + lock - 1) (x := true) (by omega) (by omega) (decide_eq_true (by omega)))
  have HB3 := Lib.hid (lk1_lock (l := l1) (z := now + lock) (t := now + lock) (x := false) (by omega) (by omega) (decide_eq_false (by omega)))
  have HMo := Lib.hid (lk1_more (most := (m : Int)) (win := x) (lock := lock) (t := now + later) (z := now + lock) (l := l1) (by omega) (by omega) (by omega) (by omega) (by omega) (by omega))
  obtain ⟨l2, hl2⟩ : ∃ l, l1 ++ [now + later] = l := ⟨_, rfl⟩
  rw [hl2] at HMo
  have HB4 := Lib.hid (lk1_lock (l := l2) (z := now + later + lock) (t := now + later + lock - 1) (x := true) (by omega) (by omega) (decide_eq_true (by omega)))
  have HB5 := Lib.hid (lk1_lock (l := l2) (z := now + later + lock) (t := now + later + lock) (x := false) (by omega) (by omega) (decide_eq_false (by omega)))
  have HB6 := Lib.hid (lk1_lock (l := l2) (z := now + later + lock) (t := now) (x := true) (by omega) (by omega) (decide_eq_true (by omega)))
  have HS : Hid (lkU m now lock 0 = []) := Lib.hid rfl
  clear hx hx1 hl1 hl1n hl2
  go_enter Try.func8, Try.ntmps8
  go_wp2_with fail
  refine (newLocks_k m win lock x lock _ HX.out HLo.out HN.out).mono ?_
  rintro e w1 ⟨b, rfl, hlo⟩
  have HL : Hid (LO W b m x lock (lkU m now lock 0) w1) := Lib.hid (by rw [HS.out]; exact hlo)
  clear hlo
  go_wp2_with fail
  go_loopw [13] (fun iv wr => ∃ i : Nat, i ≤ m ∧ iv = .int .i64 i ∧ Hid (LO W b m x lock (lkU m now lock i) wr)) (fun iv _ => m - (intOf iv).toNat)
  case atStart => exact ⟨0, Nat.zero_le _, rfl, HL⟩
  case round =>
    clear HL
    obtain ⟨i, hi, rfl, HL⟩ := hrel
    by_cases hlt : i < m
    · have di : (i : Int) < (m : Int) := by omega
      go_wp2_with fail
      refine (locked_k _ b m x lock (lkU m now lock i) sAnn now false _ HL.out.lk (by decide) (HOp.out i hlt)).mono ?_
      rintro e w2 ⟨rfl, hb⟩
      have HL := Lib.hid (HL.out.step hb)
      clear hb
      go_wp2_with fail
      refine (fail_k _ b m x lock (lkU m now lock i) (lkU m now lock (i + 1)) sAnn now _ HL.out.lk (by decide) (HNx.out i hlt)).mono ?_
      rintro e w3 ⟨rfl, hl, hf⟩
      have HL := Lib.hid (HL.out.fail hl hf)
      clear hl hf
      go_wp2_with fail
      go_roundw
      case rel => exact ⟨i + 1, by omega, by go_num, HL⟩
      case measure => simp [intOf]; omega
    · obtain rfl : i = m := by omega
      rw [HFu.out] at HL
      go_wp2_with fail
      refine (locked_k _ b i x lock (lk1 l1 (now + lock)) sAnn (now) true _ HL.out.lk (by decide) HB1.out).mono ?_
      rintro e w4 ⟨rfl, hb⟩
      have HL := Lib.hid (HL.out.step hb)
      clear hb
      go_wp2_with fail
      refine (locked_k _ b i x lock (lk1 l1 (now + lock)) sAnn (now + lock - 1) true _ HL.out.lk (by decide) HB2.out).mono ?_
      rintro e w4 ⟨rfl, hb⟩
      have HL := Lib.hid (HL.out.step hb)
      clear hb
      go_wp2_with fail
      refine (locked_k _ b i x lock (lk1 l1 (now + lock)) sAnn (now + lock) false _ HL.out.lk (by decide) HB3.out).mono ?_
      rintro e w4 ⟨rfl, hb⟩
      have HL := Lib.hid (HL.out.step hb)
      clear hb
      go_wp2_with fail
      refine (locked_k _ b i x lock (lk1 l1 (now + lock)) sBob (now) false _ HL.out.lk (by decide) (lk1_lockb _ _ _)).mono ?_
      rintro e w4 ⟨rfl, hb⟩
      have HL := Lib.hid (HL.out.step hb)
      clear hb
      go_wp2_with fail
      refine (fails_k _ b i x lock (lk1 l1 (now + lock)) sBob (now) 0 _ HL.out.lk (by decide) (lk1_failb _ _ _ _)).mono ?_
      rintro e w4 ⟨rfl, hb⟩
      have HL := Lib.hid (HL.out.step hb)
      clear hb
      go_wp2_with fail
      refine (fail_k _ b i x lock (lk1 l1 (now + lock)) (lk1 l2 (now + later + lock)) sAnn (now + later) _ HL.out.lk (by decide) HMo.out).mono ?_
      rintro e w5 ⟨rfl, hl, hf⟩
      have HL := Lib.hid (HL.out.fail hl hf)
      clear hl hf
      go_wp2_with fail
      refine (locked_k _ b i x lock (lk1 l2 (now + later + lock)) sAnn (now + later + lock - 1) true _ HL.out.lk (by decide) HB4.out).mono ?_
      rintro e w4 ⟨rfl, hb⟩
      have HL := Lib.hid (HL.out.step hb)
      clear hb
      go_wp2_with fail
      refine (locked_k _ b i x lock (lk1 l2 (now + later + lock)) sAnn (now + later + lock) false _ HL.out.lk (by decide) HB5.out).mono ?_
      rintro e w4 ⟨rfl, hb⟩
      have HL := Lib.hid (HL.out.step hb)
      clear hb
      go_wp2_with fail
      refine (clear_k _ b i x lock (lk1 l2 (now + later + lock)) (lk1 l2 (now + later + lock)) sBob _ HL.out.lk (by decide) (lk1_cb _ _)).mono ?_
      rintro e w6 ⟨rfl, hl, hf⟩
      have HL := Lib.hid (HL.out.clear hl hf)
      clear hl hf
      go_wp2_with fail
      refine (locked_k _ b i x lock (lk1 l2 (now + later + lock)) sAnn (now) true _ HL.out.lk (by decide) HB6.out).mono ?_
      rintro e w4 ⟨rfl, hb⟩
      have HL := Lib.hid (HL.out.step hb)
      clear hb
      go_wp2_with fail
      refine (clear_k _ b i x lock (lk1 l2 (now + later + lock)) [] sAnn _ HL.out.lk (by decide) (lk1_ca _ _)).mono ?_
      rintro e w7 ⟨rfl, hl, hf⟩
      have HL := Lib.hid (HL.out.clear hl hf)
      clear hl hf
      go_wp2_with fail
      refine (locked_k _ b i x lock ([]) sAnn (now) false _ HL.out.lk (by decide) (lk0_lock _)).mono ?_
      rintro e w4 ⟨rfl, hb⟩
      have HL := Lib.hid (HL.out.step hb)
      clear hb
      go_wp2_with fail
      refine (fails_k _ b i x lock ([]) sAnn (now) 0 _ HL.out.lk (by decide) (lk0_fail _ _)).mono ?_
      rintro e w4 ⟨rfl, hb⟩
      have HL := Lib.hid (HL.out.step hb)
      clear hb
      go_wp2_with fail
      refine (awake_s _ (HO.out.below HL.out.low HO.out.lt)).mono ?_
      rintro e w8 ⟨rfl, hb⟩
      have HB := Lib.hid (HL.out.low.trans (hb.mono HL.out.low.size))
      clear hb
      go_wp2_with fail
      go_ret
      exact ⟨rfl, HB.out⟩

theorem lslocked_types : ∀ t ∈ [3, 3, 3, 3, 3], Try.prog.readableRec t = true ∧ t < Try.prog.types.size := by
  have h : ([3, 3, 3, 3, 3].all fun t => Try.prog.readableRec t && decide (t < Try.prog.types.size)) = true := by kernel_rfl
  intro t ht
  have := List.all_eq_true.1 h t ht
  simpa using this

set_option maxRecDepth 100000 in
theorem lslocked_contract (H : Type) (enc : TypeId × Value → H) (W : World) (base : Nat) (args : Array Value) (ds gs : List (DataW H)) (before : List MemPlace)
    (hval : ∀ (j : Nat) t v, Try.f8.params[j]? = some t → args[j]? = some v → Value.okWide Try.prog W .any base t v)
    (hW : DataW.Whole enc Try.prog Try.f8.params.toList Rows.secretLockedSpec.vars false W args.toList ds gs before) (hsh : W.ShapedOpen Try.prog) :
    Calls Try.prog 8 args W fun e W' => ∃ v, e = .returned v ∧ Rows.secretLockedSpec.post enc Try.prog Try.f8 false true false false W args v W' := by
  have hW' := hW
  obtain ⟨p, q, hA0, hV, rfl, hfz, hnd⟩ := hW
  have hA : DataW.TrodAll enc Try.prog W 0 (fun _ => true) true Try.f8.params.toList args.toList ds p := hA0
  obtain ⟨rfl, rfl⟩ := trodVars_none hV
  simp only [List.append_nil] at hW'
  have hlt : ∀ x ∈ p, x.block < W.heap.size := fun x hx => by simpa using hW'.lt x hx
  have fin : ∀ W', Below W.heap.size W W' → DataW.TrodAll enc Try.prog W' 0 (fun b => decide (b < W.heap.size)) true [3, 3, 3, 3, 3] args.toList ds p := fun W' hb => by
    rw [Try.params8] at hA
    exact trodAll_below hb _ _ _ _ lslocked_types hA hlt
  clear hA0
  rw [Try.params8] at hA hval
  obtain ⟨v0, vs0, d0, ds0, p0, q0, hargs, rfl, hp0, h0, r0⟩ := trodAll_cons hA
  obtain ⟨v1, vs1, d1, ds1, p1, q1, rfl, rfl, hp1, h1, r1⟩ := trodAll_cons r0
  obtain ⟨v2, vs2, d2, ds2, p2, q2, rfl, rfl, hp2, h2, r2⟩ := trodAll_cons r1
  obtain ⟨v3, vs3, d3, ds3, p3, q3, rfl, rfl, hp3, h3, r3⟩ := trodAll_cons r2
  obtain ⟨v4, vs4, d4, ds4, p4, q4, rfl, rfl, hp4, h4, r4⟩ := trodAll_cons r3
  obtain ⟨rfl, rfl, rfl⟩ := trodAll_nil r4
  obtain rfl : args = #[v0, v1, v2, v3, v4] := by cases args; simp_all
  obtain ⟨most, rfl, rfl, rfl, hs0⟩ := open_int Try.underlying3 (hval 0 3 v0 rfl rfl) h0
  obtain ⟨win, rfl, rfl, rfl, hs1⟩ := open_int Try.underlying3 (hval 1 3 v1 rfl rfl) h1
  obtain ⟨lock, rfl, rfl, rfl, hs2⟩ := open_int Try.underlying3 (hval 2 3 v2 rfl rfl) h2
  obtain ⟨now, rfl, rfl, rfl, hs3⟩ := open_int Try.underlying3 (hval 3 3 v3 rfl rfl) h3
  obtain ⟨later, rfl, rfl, rfl, hs4⟩ := open_int Try.underlying3 (hval 4 3 v4 rfl rfl) h4
  refine (lslocked_s most win lock now later W (int_range hs0) (int_range hs1) (int_range hs2) (int_range hs3) (int_range hs4) (max_ok hsh)).mono fun e W' ⟨he, hb⟩ => ?_
  subst he
  exact ⟨_, rfl, _, _, _, [], p, [], hW', trodAll_mk1 (shut_bool Try.underlying4 _), fin W' hb, rfl, hb.frame _, fun h => by cases h⟩

set_option maxRecDepth 100000 in
theorem lslocked_lifted (os : Os) (started : os.Started) (H : Type) (enc : TypeId × Value → H) :
    ReturnsInHanded {} Try.checked os 8 .any (Rows.secretLockedSpec.pre6 enc Try.prog Try.f8 Rows.secretLockedRow.domain false) (Rows.secretLockedSpec.post enc Try.prog Try.f8 false true false false) := by
  refine returnsInHanded_of_change_shaped (C := Try.checked) own started (by kernel_rfl) Try.func8
    (ChangeSpec.witness6 (enc := enc) (C := Try.checked) false ⟨#[], #[.int .i64 0, .int .i64 0, .int .i64 0, .int .i64 0, .int .i64 0], []⟩ 8 (by kernel_rfl) (by kernel_rfl) (by kernel_rfl) (by kernel_rfl)) ?_
  intro W base args ds gs before hval hW _ _ hsh _
  exact lslocked_contract H enc W base args ds gs before hval hW hsh

set_option maxRecDepth 100000 in
/-- THE STATEMENT -/
theorem lslocked_said : Rows.SecretLockedSaid :=
  OpenClaim.holds_of_wide 8 Try.f8 rfl rfl rfl rfl rfl rfl rfl ⟨rfl, rfl, rfl, rfl, rfl⟩ rfl rfl rfl rfl rfl (by kernel_rfl) Try.func8 (by kernel_rfl)
    (of_decide_eq_true (by kernel_rfl)) (by unfold Func.isWrapper; first | (rw [if_pos (by decide +kernel)]; kernel_rfl) | (rw [if_neg (by decide +kernel)]; exact ⟨rfl, rfl⟩))
    (fun os started H enc _ => lslocked_lifted os started H enc)
end Go.Proofs.Ytnmcncnphfgpiaa
