/-
  Texts of the schema layer and of those beneath it, joined: SchVal, SchNrm, SchCon, SchRdL, SchRdC, SchRdT, SchBox, SchAln, SchPar, SchKl, SchFew. Conditions stand at each contract.
-/
import Derived.Lib.ItoaLen
import Derived.Lib.SplitLaws
import Derived.Deep.RegionLaw
import Derived.Maps.AppendAt
import Derived.StillTailTactics
import Derived.Test.YtonfkhkalodldabGreatDoorP03
import Derived.Test.YtonfkhkalodldabGreatDoorP04
import Derived.Test.YtonfkhkalodldabGreatDoorP07
import Derived.Test.YtonfkhkalodldabGreatDoorP10
import Derived.Test.YtonfkhkalodldabGreatDoorP12
import Derived.Test.YtonfkhkalodldabGreatDoorP13
set_option linter.unusedVariables false
set_option linter.unusedSimpArgs false
set_option linter.unnecessarySimpa false

section
/-
  Contracts of schema's digits, number, truth, normalForm and normal. Condition: values of at most 1100000 bytes.
-/
set_option maxRecDepth 100000
set_option maxRecDepth 100000
namespace Go.Proofs.YtonfkhkalodldabGreatDoor
open Go.RowKit Go.PlainAid
set_option maxHeartbeats 4000000 in
theorem truth_s (s : ByteArray) (w : World) (hs : s.size ≤ 1000000000) :
    Calls Tryz.prog 133 #[.string s] w fun e w' => e = .returned (.tuple #[.string ((truthS s).getD ⟨#[]⟩), .bool (truthS s).isSome]) ∧ Below w.heap.size w w' := by
  have HE := Lib.hid (show truthS s = if lowS s = trueS then some ⟨#[84, 82, 85, 69]⟩ else if lowS s = falseS then some ⟨#[70, 65, 76, 83, 69]⟩ else none from rfl)
  obtain ⟨b1, h1⟩ : ∃ b, ((lowS s).toList == ([116, 114, 117, 101] : List UInt8)) = b := ⟨_, rfl⟩
  obtain ⟨b2, h2⟩ : ∃ b, ((lowS s).toList == ([102, 97, 108, 115, 101] : List UInt8)) = b := ⟨_, rfl⟩
  have e1 : (lowS s = trueS) ↔ b1 = true := by
    have h := str_eq (lowS s) trueS
    rw [show trueS.toList = ([116, 114, 117, 101] : List UInt8) by rw [Lib.toList_data]; rfl, h1] at h
    rw [h]; simp
  have e2 : (lowS s = falseS) ↔ b2 = true := by
    have h := str_eq (lowS s) falseS
    rw [show falseS.toList = ([102, 97, 108, 115, 101] : List UInt8) by rw [Lib.toList_data]; rfl, h2] at h
    rw [h]; simp
  have HE2 := Lib.hid (show truthS s = if b1 = true then some ⟨#[84, 82, 85, 69]⟩ else if b2 = true then some ⟨#[70, 65, 76, 83, 69]⟩ else none by rw [HE.out]; simp only [e1, e2])
  clear e1 e2 HE
  go_enter Tryz.func133, Tryz.ntmps133
  go_wp2_with fail
  refine (lower_s s _ hs).mono ?_
  rintro e w1 ⟨rfl, hb⟩
  have HB := Lib.hid hb; clear hb
  cases b1
  · cases b2
    · have HE3 := Lib.hid (show truthS s = none from HE2.out.trans (by simp))
      clear HE2
      go_wp2_with fail
      go_ret2
      exact ⟨by rw [HE3.out]; rfl, HB.out⟩
    · have HE3 := Lib.hid (show truthS s = some ⟨#[70, 65, 76, 83, 69]⟩ from HE2.out.trans (by simp))
      clear HE2
      go_wp2_with fail
      go_ret2
      exact ⟨by rw [HE3.out]; rfl, HB.out⟩
  · have HE3 := Lib.hid (show truthS s = some ⟨#[84, 82, 85, 69]⟩ from HE2.out.trans (by simp))
    clear HE2
    go_wp2_with fail
    go_ret2
    exact ⟨by rw [HE3.out]; rfl, HB.out⟩
theorem digS_all {s : ByteArray} (h : ∀ j, j < s.size → digB (chr s j) = true) : digS s.data.toList = !s.toList.isEmpty := by
  unfold digS
  rw [Lib.toList_data]
  have : s.data.toList.all digB = true := by
    rw [List.all_eq_true]
    intro c hc
    obtain ⟨j, hj, rfl⟩ := List.mem_iff_getElem.1 hc
    have h2 := h j (by rw [Lib.size_eq]; exact hj)
    unfold chr at h2
    rwa [List.getD_eq_getElem?_getD, List.getElem?_eq_getElem hj] at h2
  rw [this, Bool.and_true]
theorem digS_not {s : ByteArray} {k : Nat} (hk : k < s.size) (h : digB (chr s k) = false) : digS s.data.toList = false := by
  unfold digS
  have : s.data.toList.all digB = false := by
    rw [Lib.size_eq] at hk
    cases e : s.data.toList.all digB with
    | false => rfl
    | true =>
      have h2 := List.all_eq_true.1 e _ (List.getElem_mem hk)
      unfold chr at h
      rw [List.getD_eq_getElem?_getD, List.getElem?_eq_getElem hk] at h
      rw [show (some s.data.toList[k]).getD 0 = s.data.toList[k] from rfl] at h
      rw [h] at h2; cases h2
  rw [this, Bool.and_false]
/-- digits all along -/
theorem digits_s (s : ByteArray) (w : World) (hs : s.size ≤ 1000000000) :
    Calls Tryz.prog 145 #[.string s] w fun e w' => e = .returned (.bool (digS s.data.toList)) ∧ w = w' := by
  go_enter Tryz.func145, Tryz.ntmps145
  go_wp2
  go_loopw [3, 6] (fun s3 i wr => ∃ k : Nat, k ≤ s.size ∧ i = .int .i64 k ∧ Hid (∀ j, j < k → digB (chr s j) = true) ∧ w = wr) (fun _ i _ => s.size - (intOf i).toNat)
  case atStart => exact ⟨0, Nat.zero_le _, rfl, Lib.hid (fun j hj => absurd hj (Nat.not_lt_zero _)), rfl⟩
  case round =>
    obtain ⟨k, hk, rfl, HA, rfl⟩ := hrel
    by_cases hlt : k < s.size
    · have d1 : (k : Int) < (s.size : Int) := by omega
      obtain ⟨v, hv⟩ : ∃ v, (s[k]'hlt).toNat = v := ⟨_, rfl⟩
      have hbc : (chr s k).toNat = v := by
        have := (byte_chr s k hlt).trans (bt_chr s k)
        omega
      cases hd : digB (chr s k)
      · have HE := Lib.hid (digS_not hlt hd)
        have hor : v < 48 ∨ (¬ v < 48 ∧ 57 < v) := by
          simp only [digB, Bool.and_eq_false_iff, decide_eq_false_iff_not, hbc] at hd
          omega
        clear hbc hd
        rcases hor with c1 | ⟨c1, c2⟩
        · have c1' : (v : Int) < 48 := by omega
          go_wp2_with fail
          go_ret
          exact ⟨by rw [HE.out]; rfl, rfl⟩
        · have c1' : ¬ (v : Int) < 48 := by omega
          have c2' : (57 : Int) < (v : Int) := by omega
          go_wp2_with fail
          go_ret
          exact ⟨by rw [HE.out]; rfl, rfl⟩
      · have c1 : ¬ (v : Int) < 48 := by
          simp only [digB, Bool.and_eq_true, decide_eq_true_eq, hbc] at hd
          omega
        have c2 : ¬ (57 : Int) < (v : Int) := by
          simp only [digB, Bool.and_eq_true, decide_eq_true_eq, hbc] at hd
          omega
        have HD := Lib.hid hd
        clear hbc hd
        go_wp2_with fail
        go_roundw
        case rel =>
          refine ⟨k + 1, by omega, by go_num, Lib.hid fun j hj => ?_, trivial⟩
          rcases Nat.lt_or_ge j k with h | h
          · exact HA.out j h
          · obtain rfl : j = k := by omega
            exact HD.out
        case measure => simp [intOf]; omega
    · obtain rfl : k = s.size := by omega
      have d1 : ¬ (s.size : Int) < (s.size : Int) := by omega
      have HE := Lib.hid (digS_all HA.out)
      go_wp2_with fail
      go_ret
      exact ⟨by rw [HE.out]; rfl, rfl⟩
theorem trim_small (s : ByteArray) : (⟨(stripL s.data.toList).toArray⟩ : ByteArray).size ≤ s.size := by
  rw [Lib.size_mk, Lib.size_eq]
  unfold stripL Lib.trimPrefix
  split
  · simp
  · exact Nat.le_refl _
theorem sat_bounds (l : List UInt8) : -9223372036854775808 ≤ Lib.atoiSat l ∧ Lib.atoiSat l ≤ 9223372036854775807 := by
  unfold Lib.atoiSat
  split
  · exact ⟨Int.le_refl _, by decide⟩
  · exact ⟨by decide, Int.le_refl _⟩
set_option maxHeartbeats 4000000 in
theorem number_s (s : ByteArray) (w : World) (hs : s.size ≤ 1100000) (ho : IntOk w) :
    Calls Tryz.prog 131 #[.string s] w fun e w' => ∃ n : Int, -9223372036854775808 ≤ n ∧ n ≤ 9223372036854775807 ∧ e = .returned (.tuple #[.int .i64 n, .bool (numS s).isSome]) ∧ (∀ m, numS s = some m → n = m) ∧ Below w.heap.size w w' := by
  have HO := Lib.hid ho; clear ho
  have HT := Lib.hid (fun W => Tryz.strings_TrimPrefix s ⟨#[45]⟩ W)
  have HD := Lib.hid (fun W => digits_s (⟨(stripL s.data.toList).toArray⟩) W (Nat.le_trans (trim_small s) (by omega)))
  obtain ⟨dg, hdg⟩ : ∃ b, digS (stripL s.data.toList) = b := ⟨_, rfl⟩
  have HDG := Lib.hid hdg; clear hdg
  go_enter Tryz.func131, Tryz.ntmps131
  go_wp2_with fail
  refine (HT.out _).mono ?_
  rintro e w1 ⟨rfl, rfl⟩
  go_wp2_with fail
  refine (HD.out _).mono ?_
  rintro e w1 ⟨rfl, rfl⟩
  dsimp only
  rw [HDG.out]
  cases dg
  · have HE := Lib.hid (show numS s = none by unfold numS; rw [HDG.out]; rfl)
    go_wp2_with fail
    go_ret2
    exact ⟨0, by decide, by decide, by rw [HE.out]; rfl, (fun m hm => by rw [HE.out] at hm; cases hm), Below.refl _ _⟩
  · rcases digS_atoi HDG.out with ⟨v, ha⟩ | ha
    · have HE := Lib.hid (show numS s = some v by unfold numS; rw [HDG.out, ha]; rfl)
      have HC := Lib.hid (fun W => atoi_ok s v W (by omega) ha)
      have hv := Lib.atoiAll_bounds ha
      clear ha
      go_wp2_with fail
      refine (HC.out _).mono ?_
      rintro e w2 ⟨rfl, hb⟩
      have HB := Lib.hid hb; clear hb
      go_wp2_with fail
      go_quiet (fail)
      go_wp2_with fail
      go_ret2
      exact ⟨v, hv.1, hv.2, by rw [HE.out]; rfl, (fun m hm => by rw [HE.out] at hm; exact Option.some.inj hm), HB.out.os, HB.out.tape, HB.out.output, HB.out.size, HB.out.block⟩
    · have HE := Lib.hid (show numS s = none by unfold numS; rw [HDG.out, ha]; rfl)
      have HA := Lib.hid ha
      have hv := sat_bounds s.data.toList
      obtain ⟨_, tp, p, hvar⟩ := HO.out
      have HC := Lib.hid (Tryz.strconv_Atoi_range_var s (by omega) ha tp p _ hvar)
      clear ha hvar
      go_wp2_with fail
      refine HC.out.mono ?_
      rintro e w2 ⟨N, rfl, _, _, hb⟩
      have HB := Lib.hid hb; clear hb
      go_wp2_with fail
      go_quiet (fail)
      go_wp2_with fail
      go_ret2
      exact ⟨_, hv.1, hv.2, by rw [HE.out]; rfl, (fun m hm => by rw [HE.out] at hm; cases hm), HB.out.os, HB.out.tape, HB.out.output, HB.out.size, HB.out.block⟩
/-- the bytes of a normal form are few -/
theorem normalForm_s (x : Int) (s : ByteArray) (w : World) (hs : s.size ≤ 1100000) (ho : IntOk w) :
    Calls Tryz.prog 111 #[.int .i64 x, .string s] w fun e w' => ∃ f : ByteArray, e = .returned (.tuple #[.string f, .bool (formS x s).isSome]) ∧ (∀ g, formS x s = some g → f = g) ∧ Below w.heap.size w w' := by
  have HO := Lib.hid ho; clear ho
  by_cases h1 : x = 1
  · subst h1
    have HE := Lib.hid (show formS 1 s = some (foldS s) from rfl)
    go_enter Tryz.func111, Tryz.ntmps111
    go_wp2_with fail
    refine (fold_s s _ (by omega)).mono ?_
    rintro e w1 ⟨rfl, hb⟩
    have HB := Lib.hid hb; clear hb
    go_wp2_with fail
    go_ret2
    exact ⟨_, by rw [HE.out]; rfl, (fun g hg => by rw [HE.out] at hg; exact Option.some.inj hg), HB.out⟩
  · by_cases h2 : x = 2
    · subst h2
      have HE := Lib.hid (show formS 2 s = some s from rfl)
      go_enter Tryz.func111, Tryz.ntmps111
      go_wp2_with fail
      go_ret2
      exact ⟨_, by rw [HE.out]; rfl, (fun g hg => by rw [HE.out] at hg; exact Option.some.inj hg), Below.refl _ _⟩
    · by_cases h3 : x = 3
      · subst h3
        have HE := Lib.hid (show formS 3 s = (numS s).map fun n => ofL (Lib.itoa n) from rfl)
        go_enter Tryz.func111, Tryz.ntmps111
        go_wp2_with fail
        refine (number_s s _ hs HO.out).mono ?_
        rintro e w1 ⟨n, n1, n2, rfl, hn, hb⟩
        have HO1 := Lib.hid (HO.out.below hb)
        have HB := Lib.hid hb; clear hb
        go_wp2_with fail
        refine (int_s n _ n1 n2 HO1.out).mono ?_
        rintro e w2 ⟨rfl, hb⟩
        have HB2 := Lib.hid (HB.out.trans (hb.mono HB.out.size)); clear hb
        go_wp2_with fail
        go_ret2
        refine ⟨_, by rw [HE.out, Option.isSome_map]; rfl, (fun g hg => ?_), HB2.out⟩
        rw [HE.out] at hg
        cases e : numS s with
        | none => rw [e] at hg; cases hg
        | some m => rw [e] at hg; rw [hn m e]; exact Option.some.inj hg
      · by_cases h4 : x = 4
        · subst h4
          have HE := Lib.hid (show formS 4 s = if Nam.cleanE s = 0 then some (Nam.cleanV s) else none from rfl)
          go_enter Tryz.func111, Tryz.ntmps111
          go_wp2_with fail
          refine (Nam.clean0_s s _ hs).mono ?_
          rintro e w1 ⟨rfl, hb⟩
          have HB := Lib.hid hb; clear hb
          by_cases hc : Nam.cleanE s = 0
          · have HE2 := Lib.hid (show formS 4 s = some (Nam.cleanV s) from HE.out.trans (if_pos hc))
            rw [hc]
            go_wp2_with fail
            go_ret2
            exact ⟨_, by rw [HE2.out]; rfl, (fun g hg => by rw [HE2.out] at hg; exact Option.some.inj hg), HB.out⟩
          · have HE2 := Lib.hid (show formS 4 s = none from HE.out.trans (if_neg hc))
            obtain ⟨ec, hec⟩ : ∃ e, Nam.cleanE s = e := ⟨_, rfl⟩
            rw [hec] at hc ⊢
            clear hec
            have hq : (ec == 0) = false := beq_false_of_ne hc
            go_wp2_with fail
            go_ret2
            exact ⟨_, by rw [HE2.out]; rfl, (fun g hg => by rw [HE2.out] at hg; cases hg), HB.out⟩
        · have HE := Lib.hid (show formS x s = truthS s by unfold formS; rw [if_neg h1, if_neg h2, if_neg h3, if_neg h4])
          go_enter Tryz.func111, Tryz.ntmps111
          go_wp2_with fail
          refine (truth_s s _ (by omega)).mono ?_
          rintro e w1 ⟨rfl, hb⟩
          have HB := Lib.hid hb; clear hb
          go_wp2_with fail
          go_ret2
          exact ⟨_, by rw [HE.out]; rfl, (fun g hg => by rw [HE.out] at hg; rw [hg]; rfl), HB.out⟩
/-- the error of a value -/
def normE (x : Int) (s : ByteArray) : Int := if (normS x s).isSome then 0 else 8
/-- normal: the form, or ErrType -/
theorem normal_s (x : Int) (s : ByteArray) (w : World) (hs : s.size ≤ 1100000) (ho : IntOk w) (hf : ∀ f, formS x s = some f → f.size ≤ 1000000000) :
    Calls Tryz.prog 76 #[.int .i64 x, .string s] w fun e w' => e = .returned (.tuple #[.string ((normS x s).getD ⟨#[]⟩), .int .i64 (normE x s)]) ∧ Below w.heap.size w w' := by
  have HF := Lib.hid hf; clear hf
  have HE := Lib.hid (show normS x s = (formS x s).bind fun f => if cleanB s = true ∧ cleanB f = true then some f else none from rfl)
  go_enter Tryz.func76, Tryz.ntmps76
  go_wp2_with fail
  refine (normalForm_s x s _ hs ho).mono ?_
  rintro e w1 ⟨f, rfl, hg, hb⟩
  have HB := Lib.hid hb; clear hb
  cases hq : formS x s with
  | none =>
    have HE2 := Lib.hid (show normS x s = none from HE.out.trans (by rw [hq]; rfl))
    clear hg
    go_wp2_with fail
    go_ret2
    exact ⟨by unfold normE; rw [HE2.out]; rfl, HB.out⟩
  | some g =>
    obtain rfl := hg g hq
    have hfs := HF.out f hq
    obtain ⟨c1, hc1⟩ : ∃ b, cleanB s = b := ⟨_, rfl⟩
    obtain ⟨c2, hc2⟩ : ∃ b, cleanB f = b := ⟨_, rfl⟩
    have HE2 := Lib.hid (show normS x s = if c1 = true ∧ c2 = true then some f else none from HE.out.trans (by rw [hq]; show (if cleanB s = true ∧ cleanB f = true then some f else none) = _; rw [hc1, hc2]))
    have HC := Lib.hid (And.intro hc1 hc2)
    clear hc1 hc2 hg
    go_wp2_with fail
    refine (clean_s s _ (by omega)).mono ?_
    rintro e w2 ⟨rfl, rfl⟩
    rw [HC.out.1]
    cases c1
    · have HE3 := Lib.hid (show normS x s = none from HE2.out.trans (by simp))
      go_wp2_with fail
      go_ret2
      exact ⟨by unfold normE; rw [HE3.out]; rfl, HB.out⟩
    · go_wp2_with fail
      refine (clean_s f _ hfs).mono ?_
      rintro e w2 ⟨rfl, rfl⟩
      rw [HC.out.2]
      cases c2
      · have HE3 := Lib.hid (show normS x s = none from HE2.out.trans (by simp))
        go_wp2_with fail
        go_ret2
        exact ⟨by unfold normE; rw [HE3.out]; rfl, HB.out⟩
      · have HE3 := Lib.hid (show normS x s = some f from HE2.out.trans (by simp))
        go_wp2_with fail
        go_ret2
        exact ⟨by unfold normE; rw [HE3.out]; rfl, HB.out⟩
end Go.Proofs.YtonfkhkalodldabGreatDoor
end

section
/-
  Contracts of schema's Normal, compareForms and Compare. Condition: names and values of at most 1100000 bytes.
-/
set_option maxRecDepth 100000
set_option maxRecDepth 100000
namespace Go.Proofs.YtonfkhkalodldabGreatDoor
open Go.RowKit Go.PlainAid
namespace Nam
theorem fmt_size {l : List Pr} (h : fmtE l = 0) : (fmtV l).size ≤ 1100000 := by
  obtain ⟨h1, h2⟩ := fmtE_ok h
  have hb := barC_len 600 (l.map fmtC) (fun p hq => by
    obtain ⟨q, hq1, rfl⟩ := List.mem_map.1 hq
    have := prE_small (h1 q hq1)
    have := fmtC_len q
    omega)
  rw [List.length_map] at hb
  have : l.length * (600 + 1) ≤ 8 * 601 := Nat.mul_le_mul_right _ h2
  unfold fmtV
  rw [if_pos h, ofB_size]; omega
theorem clean_size (s : ByteArray) : (cleanV s).size ≤ 1100000 := by
  unfold cleanV
  by_cases h : parseE s = 0
  · rw [if_pos h]; exact fmt_size (fmt_parse_ok h)
  · rw [if_neg h]; exact Nat.zero_le _
end Nam
theorem formS_small {x : Int} {s f : ByteArray} (hs : s.size ≤ 1100000) (h : formS x s = some f) : f.size ≤ 1000000000 := by
  unfold formS at h
  split at h
  · obtain rfl := Option.some.inj h; have := foldS_size s; omega
  · split at h
    · obtain rfl := Option.some.inj h; omega
    · split at h
      · cases hn : numS s with
        | none => rw [hn] at h; cases h
        | some n =>
          rw [hn] at h
          obtain rfl := Option.some.inj h
          have hb : -9223372036854775808 ≤ n ∧ n ≤ 9223372036854775807 := by
            unfold numS at hn
            split at hn
            · split at hn
              · rename_i v hv
                obtain rfl := Option.some.inj hn
                exact Lib.atoiAll_bounds hv
              · cases hn
            · cases hn
          have := Lib.itoa_length_le n hb.1 hb.2
          have e : (ofL (Lib.itoa n)).size = (Lib.itoa n).length := by unfold ofL; exact Lib.size_mk _
          show (ofL (Lib.itoa n)).size ≤ 1000000000
          omega
      · split at h
        · split at h
          · obtain rfl := Option.some.inj h; have := Nam.clean_size s; omega
          · cases h
        · unfold truthS at h
          split at h
          · obtain rfl := Option.some.inj h; decide
          · split at h
            · obtain rfl := Option.some.inj h; decide
            · cases h
/-- what Normal returns -/
def nrmE (T : List Ty) (n v : ByteArray) : Int := match tyOf T n with
  | none => 6
  | some t => normE t.syn v
def nrmV (T : List Ty) (n v : ByteArray) : ByteArray := match tyOf T n with
  | none => ⟨#[]⟩
  | some t => (normS t.syn v).getD ⟨#[]⟩
set_option maxHeartbeats 4000000 in
theorem normalF_s (v : Value) (ts : List Ty) (cs : List Cl) (n s : ByteArray) (w : World) (h : SchV w v ts cs) (hn : n.size ≤ 1000000000) (hs : s.size ≤ 1100000) (ho : IntOk w) :
    Calls Tryz.prog 42 #[v, .string n, .string s] w fun e w' => e = .returned (.tuple #[.string (nrmV (soundT ts cs) n s), .int .i64 (nrmE (soundT ts cs) n s)]) ∧ Below w.heap.size w w' := by
  have h' := h
  obtain ⟨ao, k, cap, bo, m, dap, rfl, _⟩ := h'
  have hb0 : Below w.heap.size w (w.alloc (.cells #[.slice ao k cap, .slice bo m dap] 25)) := (Below.refl _ _).alloc (Nat.le_refl _) _
  have HB0 := Lib.hid hb0
  have HC := Lib.hid (typeF_s _ ts cs n _ (h.below hb0) hn)
  have HO := Lib.hid (ho.below hb0)
  clear h hb0 ho
  go_enter Tryz.func42, Tryz.ntmps42
  go_wp2_with fail
  refine HC.out.mono ?_
  rintro e w1 ⟨rfl, hb⟩
  have hsz1 : w.heap.size < w1.heap.size := by have := hb.size; simp at this; omega
  have HB1 := Lib.hid (HB0.out.trans (hb.mono (by simp)))
  have HO1 := Lib.hid (HO.out.below hb)
  clear hb HC HB0 HO
  unfold tyV
  cases ht : tyOf (soundT ts cs) n with
  | none =>
    have HE := Lib.hid (show nrmV (soundT ts cs) n s = ⟨#[]⟩ ∧ nrmE (soundT ts cs) n s = 6 by unfold nrmV nrmE; rw [ht]; exact ⟨rfl, rfl⟩)
    clear ht
    dsimp only [Option.getD, Option.isSome, zeroTy]
    go_wp2_with fail
    go_ret2
    exact ⟨by rw [HE.out.1, HE.out.2]; rfl, HB1.out.alloc (by omega) _⟩
  | some t =>
    have HE := Lib.hid (show nrmV (soundT ts cs) n s = (normS t.syn s).getD ⟨#[]⟩ ∧ nrmE (soundT ts cs) n s = normE t.syn s by unfold nrmV nrmE; rw [ht]; exact ⟨rfl, rfl⟩)
    clear ht
    dsimp only [Option.getD, Option.isSome]
    have hal := (Below.refl w1.heap.size w1).alloc (Nat.le_refl _) (.cells #[.string t.name, .int .i64 t.syn, .bool t.single] 104)
    have HC2 := Lib.hid (normal_s t.syn s _ hs (HO1.out.below hal) (fun f hf => formS_small hs hf))
    have HAL := Lib.hid (HB1.out.trans (hal.mono (Nat.le_of_lt hsz1)))
    clear hal
    go_wp2_with fail
    refine HC2.out.mono ?_
    rintro e w2 ⟨rfl, hb⟩
    have HB2 := Lib.hid (HAL.out.trans (hb.mono HAL.out.size))
    clear hb
    go_wp2_with fail
    go_ret2
    exact ⟨by rw [HE.out.1, HE.out.2]; rfl, HB2.out⟩
end Go.Proofs.YtonfkhkalodldabGreatDoor
end

section
/-
  Contracts of schema's contains and of the table's checkAttr. Condition: names of at most 1000000000 bytes, values of at most 1100000 bytes.
-/
set_option maxRecDepth 100000
set_option maxRecDepth 100000
namespace Go.Proofs.YtonfkhkalodldabGreatDoor
open Go.RowKit Go.PlainAid
theorem all_take {f : ByteArray → Bool} {ns : List ByteArray} {k : Nat} (h : (ns.take k).all f = true) (hk : k < ns.length) (h1 : f (partAt ns k) = true) : (ns.take (k + 1)).all f = true := by
  rw [take_snoc ns k hk, List.all_append, h]
  simpa using h1
theorem all_false {f : ByteArray → Bool} {ns : List ByteArray} {k : Nat} (hk : k < ns.length) (h1 : f (partAt ns k) = false) : ns.all f = false := by
  cases e : ns.all f
  · rfl
  · have := (List.all_eq_true.1 e) _ (part_mem ns k hk)
    rw [h1] at this; cases this
theorem contains_s (b m : Nat) (D : DataW Unit) (ks : List ByteArray) (ao : Option Addr) (n cap : Nat) (ns : List ByteArray) (w : World) (hG : SetM w b m D ks) (hs : StrsAt w ao n cap ns) (hz : ∀ s ∈ ns, s.size ≤ 1000000000) :
    Calls Tryz.prog 93 #[.map (some b), .slice ao n cap] w fun e w' => e = .returned (.bool (ns.all (memB ks))) ∧ w = w' := by
  obtain ⟨h1, h2, h3, h4⟩ := hs
  subst h1
  unfold maxLen at h3
  have H4 := Lib.hid h4; clear h4
  have HZ := Lib.hid hz; clear hz
  have HG := Lib.hid hG; clear hG
  go_enter Tryz.func93, Tryz.ntmps93
  go_wp2
  go_loopw [6, 9] (fun s6 i wr => ∃ k : Nat, k ≤ ns.length ∧ i = .int .i64 k ∧ Hid ((ns.take k).all (memB ks) = true) ∧ w = wr) (fun _ i _ => ns.length - (intOf i).toNat)
  case atStart => exact ⟨0, Nat.zero_le _, rfl, Lib.hid rfl, rfl⟩
  case round =>
    obtain ⟨k, hk, rfl, HA, rfl⟩ := hrel
    by_cases hlt : k < ns.length
    · obtain ⟨g, off, rfl, hs⟩ := H4.out (by omega)
      have hcell := hs.2 k hlt
      clear hs
      obtain ⟨p, hp⟩ : ∃ x, partAt ns k = x := ⟨_, rfl⟩
      have hps : p.size ≤ 1000000000 := by rw [← hp]; exact HZ.out _ (part_mem ns k hlt)
      have hlook := HG.out.look p (by unfold maxLen; omega)
      have d1 : (k : Int) < (ns.length : Int) := by omega
      rw [hp] at hcell
      cases ht : memB ks p
      · have HE := Lib.hid (show ns.all (memB ks) = false from all_false hlt (by rw [hp]; exact ht))
        rw [ht] at hlook
        clear ht hp
        go_wp2_with fail
        go_ret
        exact ⟨by rw [HE.out]; rfl, rfl⟩
      · have HA2 := Lib.hid (all_take HA.out hlt (by rw [hp]; exact ht))
        rw [ht] at hlook
        clear ht hp
        go_wp2_with fail
        go_roundw
        case rel => exact ⟨k + 1, by omega, by go_num, HA2, trivial⟩
        case measure => simp [intOf]; omega
    · have hk2 : k = ns.length := by omega
      have HE := Lib.hid (show ns.all (memB ks) = true by have := HA.out; rw [hk2, List.take_length] at this; exact this)
      have d1 : ¬ (k : Int) < (ns.length : Int) := by omega
      go_wp2_with fail
      go_ret
      exact ⟨by rw [HE.out]; rfl, rfl⟩
/-- the error of an attribute by itself -/
def valE (x : Int) (vs : List ByteArray) : Int := firstE (fun j => normE x (partAt vs j)) vs.length
def chkAt (T : List Ty) (a : At) : Int := match tyOf T a.1 with
  | none => 6
  | some t => if valE t.syn a.2 ≠ 0 then valE t.syn a.2 else if t.single = true ∧ 1 < a.2.length then 9 else 0
set_option maxHeartbeats 8000000 in
theorem checkAttr_s (mt mc : Option Nat) (ts : List Ty) (a : At) (vo : Option Addr) (vn vc : Nat) (w : World) (h : TMap w mt ts) (hv : StrsAt w vo vn vc a.2) (hn : a.1.size ≤ 1100000) (hz : SmallS a.2) (ho : IntOk w) :
    Calls Tryz.prog 46 #[.agg #[.map mt, .map mc], .agg #[.string a.1, .slice vo vn vc]] w fun e w' => e = .returned (.int .i64 (chkAt ts a)) ∧ Below w.heap.size w w' := by
  obtain ⟨nm, vs⟩ := a
  simp only at hv hn hz ⊢
  have hb0 : Below w.heap.size w ((w.alloc (.cells #[.map mt, .map mc] 88)).alloc (.cells #[.string nm, .slice vo vn vc] 41)) := ((Below.refl _ _).alloc (Nat.le_refl _) _).alloc (by simp) _
  have HB0 := Lib.hid hb0
  have HC := Lib.hid (typeOf_s mt mc ts nm _ (h.below hb0) (by omega))
  have HO := Lib.hid (ho.below hb0)
  have HV := Lib.hid hv
  have HZ := Lib.hid hz
  have hvl := hv.1
  have hvm := hv.2.2.1
  unfold maxLen at hvm
  have hvc := hv.2.1
  clear h hb0 ho hv hz
  go_enter Tryz.func46, Tryz.ntmps46
  go_wp2_with fail
  refine HC.out.mono ?_
  rintro e w1 ⟨rfl, hb⟩
  have hsz1 : w.heap.size + 1 < w1.heap.size := by have := hb.size; simp at this; omega
  have q0 : w1.cell? ⟨w.heap.size + 1, 0, none⟩ = some (.string nm) := cell_later hb (by go_simp)
  have q1 : w1.cell? ⟨w.heap.size + 1, 1, none⟩ = some (.slice vo vn vc) := cell_later hb (by go_simp)
  have HB1 := Lib.hid (HB0.out.trans (hb.mono (by simp; omega)))
  have HO1 := Lib.hid (HO.out.below hb)
  clear hb HC HB0 HO
  unfold tyV
  cases ht : tyOf ts nm with
  | none =>
    have HE := Lib.hid (show chkAt ts (nm, vs) = 6 by unfold chkAt; simp only; rw [ht])
    clear ht
    dsimp only [Option.getD, Option.isSome, zeroTy]
    go_wp2_with fail
    go_ret
    exact ⟨by rw [HE.out]; rfl, HB1.out.alloc (by omega) _⟩
  | some t =>
    have HE := Lib.hid (show chkAt ts (nm, vs) = if valE t.syn vs ≠ 0 then valE t.syn vs else if t.single = true ∧ 1 < vs.length then 9 else 0 by unfold chkAt; simp only; rw [ht])
    clear ht
    dsimp only [Option.getD, Option.isSome]
    obtain ⟨tn, syn, sg⟩ := t
    dsimp only at HE ⊢
    have hal := (Below.refl w1.heap.size w1).alloc (Nat.le_refl _) (.cells #[.string tn, .int .i64 syn, .bool sg] 104)
    have HI := Lib.hid (show (w1.alloc (.cells #[.string tn, .int .i64 syn, .bool sg] 104)).cell? ⟨w1.heap.size, 1, none⟩ = some (.int .i64 syn) ∧ (w1.alloc (.cells #[.string tn, .int .i64 syn, .bool sg] 104)).cell? ⟨w1.heap.size, 2, none⟩ = some (.bool sg) ∧ (w1.alloc (.cells #[.string tn, .int .i64 syn, .bool sg] 104)).cell? ⟨w.heap.size + 1, 1, none⟩ = some (.slice vo vn vc) from ⟨by go_simp, by go_simp, cell_later hal q1⟩)
    have HB2 := Lib.hid (HB1.out.trans (hal.mono (by omega)))
    have HO2 := Lib.hid (HO1.out.below hal)
    clear hal
    go_wp2_with fail
    go_loopw [8, 9, 10, 23] (fun s8 s9 s10 i wr => ∃ k : Nat, k ≤ vn ∧ i = .int .i64 k ∧ Hid (∀ q, q < k → normE syn (partAt vs q) = 0) ∧ Hid (wr.cell? ⟨w1.heap.size, 1, none⟩ = some (.int .i64 syn) ∧ wr.cell? ⟨w1.heap.size, 2, none⟩ = some (.bool sg) ∧ wr.cell? ⟨w.heap.size + 1, 1, none⟩ = some (.slice vo vn vc)) ∧ Hid (IntOk wr) ∧ Hid (Below w.heap.size w wr)) (fun _ _ _ i _ => vn - (intOf i).toNat)
    case atStart => exact ⟨0, Nat.zero_le _, rfl, Lib.hid (fun q hq => absurd hq (Nat.not_lt_zero _)), HI, HO2, HB2⟩
    case round =>
      clear HI HO2 HB2
      obtain ⟨k, hk, rfl, HA, HI, HO, HB⟩ := hrel
      obtain ⟨i0, i1, i2⟩ := HI.out
      by_cases hlt : k < vn
      · obtain ⟨b, off, rfl, hs⟩ := HV.out.2.2.2 (by omega)
        have hcell := (hs.below HB.out hs.1).2 k (by omega)
        clear hs
        have hps := HZ.out _ (part_mem vs k (by omega))
        obtain ⟨p, hp⟩ : ∃ x, partAt vs k = x := ⟨_, rfl⟩
        rw [hp] at hcell hps
        have HC := Lib.hid (normal_s syn p wr hps HO.out (fun f hf => formS_small hps hf))
        obtain ⟨fv, hfv⟩ : ∃ f, (normS syn p).getD ⟨#[]⟩ = f := ⟨_, rfl⟩
        obtain ⟨ev, hev⟩ : ∃ e, normE syn p = e := ⟨_, rfl⟩
        rw [hfv, hev] at HC
        have d1 : (k : Int) < (vn : Int) := by omega
        have HP := Lib.hid (And.intro hp hev)
        clear hp hfv hev
        go_wp2_with fail
        refine HC.out.mono ?_
        rintro e w2 ⟨rfl, hb⟩
        have HI2 := Lib.hid (And.intro (cell_later hb i0) (And.intro (cell_later hb i1) (cell_later hb i2)))
        have HO3 := Lib.hid (HO.out.below hb)
        have HB3 := Lib.hid (HB.out.trans (hb.mono HB.out.size))
        clear hb i0 i1 i2 HC
        by_cases he : ev = 0
        · subst he
          go_wp2_with fail
          go_roundw
          case rel =>
            refine ⟨k + 1, by omega, by go_num, Lib.hid fun q hq => ?_, HI2, HO3, HB3⟩
            rcases Nat.lt_or_ge q k with h | h
            · exact HA.out q h
            · obtain rfl : q = k := by omega
              rw [HP.out.1]; exact HP.out.2
          case measure => simp [intOf]; omega
        · have hve : valE syn vs = ev := by
            unfold valE
            rw [firstE_hit (k := k) HA.out (by rw [HP.out.1, HP.out.2]; exact he) (by omega), HP.out.1, HP.out.2]
          have HE2 := Lib.hid (show chkAt ts (nm, vs) = ev from HE.out.trans (by rw [hve, if_pos he]))
          clear hve
          go_wp2_with fail
          go_ret
          exact ⟨by rw [HE2.out]; rfl, HB3.out⟩
      · obtain rfl : k = vn := by omega
        have d1 : ¬ (k : Int) < (k : Int) := by omega
        have hve : valE syn vs = 0 := firstE_zero (fun j hj => HA.out j (by omega))
        have HE2 := Lib.hid (show chkAt ts (nm, vs) = if sg = true ∧ 1 < k then 9 else 0 from HE.out.trans (by rw [hve, hvl]; simp))
        clear hve
        cases sg
        · have HE3 := Lib.hid (show chkAt ts (nm, vs) = 0 from HE2.out.trans (by simp))
          go_wp2_with fail
          go_ret
          exact ⟨by rw [HE3.out]; rfl, HB.out⟩
        · by_cases h1 : 1 < k
          · have d2 : (1 : Int) < (k : Int) := by omega
            have HE3 := Lib.hid (show chkAt ts (nm, vs) = 9 from HE2.out.trans (by simp [h1]))
            go_wp2_with fail
            go_ret
            exact ⟨by rw [HE3.out]; rfl, HB.out⟩
          · have d2 : ¬ (1 : Int) < (k : Int) := by omega
            have HE3 := Lib.hid (show chkAt ts (nm, vs) = 0 from HE2.out.trans (by simp [h1]))
            go_wp2_with fail
            go_ret
            exact ⟨by rw [HE3.out]; rfl, HB.out⟩
end Go.Proofs.YtonfkhkalodldabGreatDoor
end

section
/-
  Contracts of strings.Split at one byte and of schema's readList. Condition: words of at most 1100000 bytes.
-/
set_option maxRecDepth 100000
set_option maxRecDepth 100000
namespace Go.Proofs.YtonfkhkalodldabGreatDoor
open Go.RowKit Go.PlainAid
def partsB (sep : UInt8) (s : ByteArray) : List ByteArray := Lib.splitB ⟨#[sep]⟩ 0 (Lib.countB s ⟨#[sep]⟩) s
/-- the names of a word -/
def rdListB (s : ByteArray) : Bool := decide (s = dashN) || (partsB 44 s).all nameB
def rdListV (s : ByteArray) : List ByteArray := if s = dashN then [] else if (partsB 44 s).all nameB = true then partsB 44 s else []
end Go.Proofs.YtonfkhkalodldabGreatDoor
end

section
/-
  Contract of schema's readClass. Condition: words of at most 1100000 bytes.
-/
set_option maxRecDepth 100000
set_option maxRecDepth 100000
namespace Go.Proofs.YtonfkhkalodldabGreatDoor
open Go.RowKit Go.PlainAid
def supV (s : ByteArray) : ByteArray := if s = dashN then ⟨#[]⟩ else s
def supB (s : ByteArray) : Bool := decide (s = dashN) || nameB s
/-- the class with these words after the first one -/
def rdClass (l : List ByteArray) : Option Cl :=
  if l.length = 4 ∧ nameB (partAt l 0) = true then
    (if supB (partAt l 1) = true ∧ rdListB (partAt l 2) = true ∧ rdListB (partAt l 3) = true then some ⟨partAt l 0, supV (partAt l 1), rdListV (partAt l 2), rdListV (partAt l 3)⟩ else none) else none
/-- the result's box of readClass -/
structure RK (w W : World) : Prop where
  cb : CB W w.heap.size (.string ⟨#[]⟩) (.string ⟨#[]⟩) (.slice none 0 0) (.slice none 0 0)
  low : Below w.heap.size w W
  big : w.heap.size < W.heap.size
theorem RK.step {w W V : World} (h : RK w W) (hb : Below W.heap.size W V) : RK w V :=
  ⟨h.cb.keep (hb.block _ h.big), h.low.trans (hb.mono (Nat.le_of_lt h.big)), Nat.lt_of_lt_of_le h.big hb.size⟩
end Go.Proofs.YtonfkhkalodldabGreatDoor
end

section
/-
  Contract of schema's readType. Condition: words of at most 1100000 bytes; syntaxWords reads as its five words.
-/
set_option maxRecDepth 100000
set_option maxRecDepth 100000
namespace Go.Proofs.YtonfkhkalodldabGreatDoor
open Go.RowKit Go.PlainAid
/-- the type with these words after the first one -/
def rdTy (l : List ByteArray) (sg : Bool) : Option Ty := if rdOk (partAt l 1) = true ∧ nameB (partAt l 0) = true then some ⟨partAt l 0, rdSyn (partAt l 1), sg⟩ else none
def rdType (l : List ByteArray) : Option Ty :=
  if l.length = 2 then rdTy l false else if l.length = 3 ∧ partAt l 2 = singleN then rdTy l true else none
/-- the result's box of readType -/
structure RB (w W : World) : Prop where
  c0 : W.cell? ⟨w.heap.size, 0, none⟩ = some (.string ⟨#[]⟩)
  c1 : W.cell? ⟨w.heap.size, 1, none⟩ = some (.int .i64 0)
  c2 : W.cell? ⟨w.heap.size, 2, none⟩ = some (.bool false)
  f0 : W.frozen? ⟨w.heap.size, 0, none⟩ = false
  f1 : W.frozen? ⟨w.heap.size, 1, none⟩ = false
  f2 : W.frozen? ⟨w.heap.size, 2, none⟩ = false
  low : Below w.heap.size w W
  big : w.heap.size < W.heap.size
theorem RB.step {w W V : World} (h : RB w W) (hb : Below W.heap.size W V) : RB w V :=
  ⟨cell_later hb h.c0, cell_later hb h.c1, cell_later hb h.c2, frozen_later hb h.big h.f0, frozen_later hb h.big h.f1, frozen_later hb h.big h.f2, h.low.trans (hb.mono (Nat.le_of_lt h.big)), Nat.lt_of_lt_of_le h.big hb.size⟩
end Go.Proofs.YtonfkhkalodldabGreatDoor
end

section
/-
  The schema that is read (SB): its block, two rows of the call's own, the classes' strings apart from them; what an append onto a row does to it.
-/
set_option maxRecDepth 100000
set_option maxRecDepth 100000
namespace Go.Proofs.YtonfkhkalodldabGreatDoor
open Go.RowKit Go.PlainAid
/-- a slice's strings lie apart from a block and from two rows -/
def FarV (b : Nat) (v vt vc : Value) : Prop := ∀ g off n c, v = .slice (some ⟨g, off, none⟩) n c → 0 < n → b < g ∧ vt.ownBlock ≠ some g ∧ vc.ownBlock ≠ some g
/-- the schema that is read: its block, its two rows, its classes' strings apart from them -/
structure SB (W : World) (b : Nat) (ts : List Ty) (cvs : List Cv) (vt vc : Value) : Prop where
  blk : W.heap[b]? = some (.cells #[vt, vc] 25)
  rowT : W.ownsRow (b + 1) 104 3 vt ts.length (ycells ts)
  rowC : W.ownsRow (b + 1) 106 4 vc cvs.length (ccells cvs)
  apart : vt.ownBlock = none ∨ vt.ownBlock ≠ vc.ownBlock
  ok : ∀ d ∈ cvs, CvOk W d
  far : ∀ d ∈ cvs, FarV b d.hm vt vc ∧ FarV b d.hy vt vc
theorem SB.lt {W : World} {b : Nat} {ts : List Ty} {cvs : List Cv} {vt vc : Value} (h : SB W b ts cvs vt vc) : b < W.heap.size := (Array.getElem?_eq_some_iff.1 h.blk).1
theorem SB.below {W V : World} {b : Nat} {ts : List Ty} {cvs : List Cv} {vt vc : Value} (h : SB W b ts cvs vt vc) (hb : Below W.heap.size W V) : SB V b ts cvs vt vc :=
  ⟨(hb.block _ h.lt).trans h.blk, own_below h.rowT hb, own_below h.rowC hb, h.apart, fun d hd => (h.ok d hd).below hb, h.far⟩
theorem Hdr.keepP {w w' : World} {v : Value} {l : List ByteArray} (h : Hdr w v l) (hs : w.heap.size ≤ w'.heap.size) (hk : ∀ g off n c, v = .slice (some ⟨g, off, none⟩) n c → 0 < n → g < w.heap.size → w'.heap[g]? = w.heap[g]?) : Hdr w' v l := by
  obtain ⟨ao, n, cap, rfl, h1, h2, h3, h4⟩ := h
  refine ⟨ao, n, cap, rfl, h1, h2, h3, fun hn => ?_⟩
  obtain ⟨g, off, rfl, hi⟩ := h4 hn
  refine ⟨g, off, rfl, Nat.lt_of_lt_of_le hi.1 hs, fun j hj => ?_⟩
  rw [← hi.2 j hj]
  exact World.cell?_of_block (a := ⟨g, off + j, none⟩) (hk g off n cap rfl hn hi.1)
theorem row_slice {w : World} {base : Nat} {e : TypeId} {size : Nat} {v : Value} {n : Nat} {xs : List Value} (h : w.ownsRow base e size v n xs) : ∃ ao cap, v = .slice ao n cap := by
  rcases h.2 with ⟨rfl, rfl⟩ | ⟨g, cap, cur, rfl, _⟩
  · exact ⟨_, _, rfl⟩
  · exact ⟨_, _, rfl⟩
theorem FarV.fresh {W : World} {b : Nat} {ts : List Ty} {cvs : List Cv} {vt vc : Value} (h : SB W b ts cvs vt vc) {ao : Option Addr} {n c : Nat} (hf : FreshA W.heap.size ao) : FarV b (.slice ao n c) vt vc := fun g off n' c' e hn => by
  simp only [Value.slice.injEq] at e
  obtain ⟨rfl, _, _⟩ := e
  have hg := hf g off rfl
  refine ⟨by have := h.lt; omega, fun e => by have := (h.rowT.lt g e).2; omega, fun e => by have := (h.rowC.lt g e).2; omega⟩
theorem SB.other {W : World} {b : Nat} {ts : List Ty} {cvs : List Cv} {vt vc : Value} (h : SB W b ts cvs vt vc) (a : Addr) (ha : a.block < b) (u : Value) : SB (W.setCell a u) b ts cvs vt vc := by
  have hsz : W.heap.size ≤ (W.setCell a u).heap.size := by simp [World.setCell]
  have hk : ∀ {v : Value} {l : List ByteArray}, Hdr W v l → FarV b v vt vc → Hdr (W.setCell a u) v l := fun hh hf => hh.keepP hsz fun g off n c e hn hgl => Below.heap_setCell W a u g (by have := (hf g off n c e hn).1; omega)
  exact ⟨(Below.heap_setCell W a u b (by omega)).trans h.blk, ownsRow_setCell_below h.rowT (by omega) u, ownsRow_setCell_below h.rowC (by omega) u, h.apart, fun d hd => ⟨hk (h.ok d hd).1 (h.far d hd).1, hk (h.ok d hd).2 (h.far d hd).2⟩, h.far⟩
/-- a line read onto a schema -/
def typeW : ByteArray := ⟨[116, 121, 112, 101].toArray⟩
def classW : ByteArray := ⟨[99, 108, 97, 115, 115].toArray⟩
def lineL (ts : List Ty) (cls : List Cl) (s : ByteArray) : Option (List Ty × List Cl) :=
  if partAt (partsB 32 s) 0 = typeW then (match rdType (partsB 32 s).tail with | some t => if cls = [] then some (ts ++ [t], cls) else none | none => none)
  else if partAt (partsB 32 s) 0 = classW then (match rdClass (partsB 32 s).tail with | some c => some (ts, cls ++ [c]) | none => none) else none
/-- what a line leaves -/
def LineP (b : Nat) (ts : List Ty) (cvs : List Cv) (s : ByteArray) (w : World) (e : Ending) (w' : World) : Prop :=
  ∃ ts' cvs' vt' vc', e = .returned (.bool (lineL ts (ccls cvs) s).isSome) ∧ (∀ r, lineL ts (ccls cvs) s = some r → (ts', ccls cvs') = r) ∧ SB w' b ts' cvs' vt' vc' ∧ Below b w w'
theorem LineP.no {b : Nat} {ts ts' : List Ty} {cvs cvs' : List Cv} {s : ByteArray} {w w' : World} {vt' vc' : Value} {l : Option (List Ty × List Cl)} (hl : lineL ts (ccls cvs) s = l) (h0 : l = none) (h : SB w' b ts' cvs' vt' vc') (hb : Below b w w') : LineP b ts cvs s w (.returned (.bool false)) w' :=
  ⟨ts', cvs', vt', vc', (by rw [hl, h0]; rfl), (by rw [hl, h0]; intro r e; cases e), h, hb⟩
theorem LineP.yes {b : Nat} {ts ts' : List Ty} {cvs cvs' : List Cv} {s : ByteArray} {w w' : World} {vt' vc' : Value} {l : Option (List Ty × List Cl)} (hl : lineL ts (ccls cvs) s = l) (h0 : l = some (ts', ccls cvs')) (h : SB w' b ts' cvs' vt' vc') (hb : Below b w w') : LineP b ts cvs s w (.returned (.bool true)) w' :=
  ⟨ts', cvs', vt', vc', (by rw [hl, h0]; rfl), (by rw [hl, h0]; intro r e; exact Option.some.inj e), h, hb⟩
end Go.Proofs.YtonfkhkalodldabGreatDoor
end

section
/-
  Contract of schema's addLine (the schema that is read). Condition: lines of at most 1100000 bytes; the schema lies behind the pointer in a block and two rows of the call's own.
-/
set_option maxRecDepth 100000
set_option maxRecDepth 100000
namespace Go.Proofs.YtonfkhkalodldabGreatDoor
open Go.RowKit Go.PlainAid
theorem StrsAt.tail {w : World} {b off n cap : Nat} {l : List ByteArray} (h : StrsAt w (some ⟨b, off, none⟩) n cap l) (hn : 0 < n) : StrsAt w (some ⟨b, off + 1, none⟩) (n - 1) (cap - 1) l.tail := by
  cases l with
  | nil => have := h.1; simp at this; omega
  | cons p r => exact h.drop
end Go.Proofs.YtonfkhkalodldabGreatDoor
end

section
/-
  Contract of schema's Parse. Condition: a text of at most 1100000 bytes; the package's words as the card says.
-/
set_option maxRecDepth 100000
set_option maxRecDepth 100000
namespace Go.Proofs.YtonfkhkalodldabGreatDoor
open Go.RowKit Go.PlainAid
theorem cut_lt {s : ByteArray} (h : cutOk s ⟨#[10]⟩ = true) : (cutAft s ⟨#[10]⟩).size < s.size ∧ (cutBef s ⟨#[10]⟩).size ≤ s.size := by
  rcases cut_one s 10 with ⟨_, _, h1, h2, _⟩ | ⟨h0, _⟩
  · exact ⟨h1, h2⟩
  · rw [h] at h0; cases h0
/-- the lines read onto a schema: the schema, or the number of the line with the first fault -/
def readL (ts : List Ty) (cs : List Cl) (s : ByteArray) (n : Nat) : Option (List Ty × List Cl) × Nat :=
  if s = ⟨#[]⟩ then (some (ts, cs), 0)
  else if hc : cutOk s ⟨#[10]⟩ = true then
    match lineL ts cs (cutBef s ⟨#[10]⟩) with
    | some r => readL r.1 r.2 (cutAft s ⟨#[10]⟩) (n + 1)
    | none => (none, n)
  else (none, n)
termination_by s.size
decreasing_by exact (cut_lt hc).1
def parE (s : ByteArray) : Int := if 4096 < s.size then 3 else match (readL [] [] s 1).1 with
  | none => 4
  | some r => chkS r.1 r.2
def parN (s : ByteArray) : Nat := if 4096 < s.size then 0 else match (readL [] [] s 1).1 with
  | none => (readL [] [] s 1).2
  | some _ => 0
def parR (s : ByteArray) : List Ty × List Cl := if 4096 < s.size then ([], []) else match (readL [] [] s 1).1 with
  | none => ([], [])
  | some r => if chkS r.1 r.2 = 0 then r else ([], [])
def ParP (s : ByteArray) (w : World) (e : Ending) (w' : World) : Prop :=
  ∃ v, e = .returned (.tuple #[v, .int .i64 (parN s), .int .i64 (parE s)]) ∧ SchV w' v (parR s).1 (parR s).2 ∧ Below w.heap.size w w'
theorem schv_nil (w : World) : SchV w (.agg #[.slice none 0 0, .slice none 0 0]) [] [] :=
  ⟨none, 0, 0, none, 0, 0, rfl, ⟨rfl, Nat.le_refl _, by unfold maxLen; omega, fun h => absurd h (Nat.lt_irrefl _)⟩, ⟨rfl, Nat.le_refl _, by unfold maxLen; omega, fun h => absurd h (Nat.lt_irrefl _)⟩, (fun _ h => by cases h), (fun _ h => by cases h)⟩
theorem ParP.no {s : ByteArray} {w w' : World} {n : Nat} (hs : s.size ≤ 4096) (h : readL [] [] s 1 = (none, n)) (hb : Below w.heap.size w w') : ParP s w (.returned (.tuple #[.agg #[.slice none 0 0, .slice none 0 0], .int .i64 n, .int .i64 4])) w' := by
  have hn : ¬ 4096 < s.size := by omega
  have e1 : parN s = n := by unfold parN; rw [if_neg hn, h]
  have e2 : parE s = 4 := by unfold parE; rw [if_neg hn, h]
  have e3 : parR s = ([], []) := by unfold parR; rw [if_neg hn, h]
  exact ⟨_, by rw [e1, e2], by rw [e3]; exact schv_nil w', hb⟩
theorem ParP.big {s : ByteArray} {w w' : World} (hs : 4096 < s.size) (hb : Below w.heap.size w w') : ParP s w (.returned (.tuple #[.agg #[.slice none 0 0, .slice none 0 0], .int .i64 0, .int .i64 3])) w' := by
  have e1 : parN s = 0 := if_pos hs
  have e2 : parE s = 3 := if_pos hs
  have e3 : parR s = ([], []) := if_pos hs
  exact ⟨_, by rw [e1, e2]; rfl, by rw [e3]; exact schv_nil w', hb⟩
theorem ParP.yes {s : ByteArray} {w w' : World} {r : List Ty × List Cl} {q : Nat} {v : Value} (hs : s.size ≤ 4096) (h : readL [] [] s 1 = (some r, q)) (hc : chkS r.1 r.2 = 0) (hv : SchV w' v r.1 r.2) (hb : Below w.heap.size w w') : ParP s w (.returned (.tuple #[v, .int .i64 0, .int .i64 0])) w' := by
  have hn : ¬ 4096 < s.size := by omega
  have e1 : parN s = 0 := by unfold parN; rw [if_neg hn, h]
  have e2 : parE s = 0 := by unfold parE; rw [if_neg hn, h]; exact hc
  have e3 : parR s = r := by unfold parR; rw [if_neg hn, h]; exact if_pos hc
  exact ⟨_, by rw [e1, e2]; rfl, by rw [e3]; exact hv, hb⟩
theorem emp_false {s : ByteArray} (h : s ≠ ⟨#[]⟩) : s.toList.isEmpty = false := by
  rw [Lib.toList_data]
  rcases s with ⟨⟨l⟩⟩
  cases l with
  | nil => exact absurd rfl h
  | cons => rfl
end Go.Proofs.YtonfkhkalodldabGreatDoor
end

section
/-
  Contract of the specification's class. Condition: names of at most 1000000000 bytes.
-/
set_option maxRecDepth 100000
set_option maxRecDepth 100000
namespace Go.Proofs.YtonfkhkalodldabGreatDoor
open Go.RowKit Go.PlainAid
theorem cl_takeAt (l : List Cl) {k j : Nat} (h : j < k) : clAt (l.take k) j = clAt l j := by
  unfold clAt; rw [List.getD_eq_getElem?_getD, List.getElem?_take_of_lt h, List.getD_eq_getElem?_getD]
theorem ty_takeAt (l : List Ty) {k j : Nat} (h : j < k) : tyAt (l.take k) j = tyAt l j := by
  unfold tyAt; rw [List.getD_eq_getElem?_getD, List.getElem?_take_of_lt h, List.getD_eq_getElem?_getD]
theorem ClsAt.cut {w : World} {ao : Option Addr} {n cap : Nat} {l : List Cl} (h : ClsAt w ao n cap l) {k : Nat} (hk : k ≤ n) : ClsAt w ao k cap (l.take k) := by
  obtain ⟨h1, h2, h3, h4⟩ := h
  refine ⟨by rw [List.length_take]; omega, by omega, h3, fun hn => ?_⟩
  obtain ⟨b, off, e, hb, hs⟩ := h4 (by omega)
  exact ⟨b, off, e, hb, fun j hj => by rw [cl_takeAt l hj]; exact hs j (by omega)⟩
theorem TysAt.cut {w : World} {ao : Option Addr} {n cap : Nat} {l : List Ty} (h : TysAt w ao n cap l) {k : Nat} (hk : k ≤ n) : TysAt w ao k cap (l.take k) := by
  obtain ⟨h1, h2, h3, h4⟩ := h
  refine ⟨by rw [List.length_take]; omega, by omega, h3, fun hn => ?_⟩
  obtain ⟨b, off, e, hb, hs⟩ := h4 (by omega)
  exact ⟨b, off, e, hb, fun j hj => by rw [ty_takeAt l hj]; exact hs j (by omega)⟩
theorem TyIx.pos {l : List Ty} {n : ByteArray} {r : Int} (h : TyIx l n r) : (0 ≤ r ∧ (tyOf l n).isSome = true) ∨ (r < 0 ∧ (tyOf l n).isSome = false) := by
  rcases h with ⟨k, rfl, _, e⟩ | ⟨rfl, e⟩
  · exact .inl ⟨by omega, by rw [e]; rfl⟩
  · exact .inr ⟨by omega, by rw [e]; rfl⟩
theorem ClIx.pos {l : List Cl} {n : ByteArray} {r : Int} (h : ClIx l n r) : (0 ≤ r ∧ (clOf l n).isSome = true) ∨ (r < 0 ∧ (clOf l n).isSome = false) := by
  rcases h with ⟨k, rfl, _, e⟩ | ⟨rfl, e⟩
  · exact .inl ⟨by omega, by rw [e]; rfl⟩
  · exact .inr ⟨by omega, by rw [e]; rfl⟩
/-- the boxes of class: the schema, the class -/
structure KB (w W : World) (ao : Option Addr) (n cap : Nat) (bo : Option Addr) (m dap : Nat) (d : Cv) : Prop where
  box : W.heap[w.heap.size]? = some (.cells #[.slice ao n cap, .slice bo m dap] 25)
  cls : W.heap[w.heap.size + 1]? = some (.cells #[.string d.cl.name, .string d.cl.super, d.hm, d.hy] 106)
  low : Below w.heap.size w W
  big : w.heap.size + 1 < W.heap.size
theorem KB.step {w W V : World} {ao : Option Addr} {n cap : Nat} {bo : Option Addr} {m dap : Nat} {d : Cv} (h : KB w W ao n cap bo m dap d) (hb : Below W.heap.size W V) : KB w V ao n cap bo m dap d :=
  ⟨(hb.block _ (by have := h.big; omega)).trans h.box, (hb.block _ h.big).trans h.cls, h.low.trans (hb.mono (by have := h.big; omega)), Nat.lt_of_lt_of_le h.big hb.size⟩
theorem KB.cells {w W : World} {ao : Option Addr} {n cap : Nat} {bo : Option Addr} {m dap : Nat} {d : Cv} (h : KB w W ao n cap bo m dap d) :
    W.cell? ⟨w.heap.size, 0, none⟩ = some (.slice ao n cap) ∧ W.cell? ⟨w.heap.size, 1, none⟩ = some (.slice bo m dap) ∧ W.cell? ⟨w.heap.size + 1, 0, none⟩ = some (.string d.cl.name) ∧ W.cell? ⟨w.heap.size + 1, 1, none⟩ = some (.string d.cl.super) ∧ W.cell? ⟨w.heap.size + 1, 2, none⟩ = some d.hm ∧ W.cell? ⟨w.heap.size + 1, 3, none⟩ = some d.hy :=
  ⟨heap_cell h.box rfl, heap_cell h.box rfl, heap_cell h.cls rfl, heap_cell h.cls rfl, heap_cell h.cls rfl, heap_cell h.cls rfl⟩
end Go.Proofs.YtonfkhkalodldabGreatDoor
end

section
/-
  Contract of the laws' guard few at schema. No condition.
-/
set_option maxRecDepth 100000
set_option maxRecDepth 100000
namespace Go.Proofs.YtonfkhkalodldabGreatDoor
open Go.RowKit Go.PlainAid
/-- the box of a schema -/
structure FB (w W : World) (ao : Option Addr) (n cap : Nat) (bo : Option Addr) (m dap : Nat) : Prop where
  box : W.heap[w.heap.size]? = some (.cells #[.slice ao n cap, .slice bo m dap] 25)
  low : Below w.heap.size w W
  big : w.heap.size < W.heap.size
theorem FB.step {w W V : World} {ao : Option Addr} {n cap : Nat} {bo : Option Addr} {m dap : Nat} (h : FB w W ao n cap bo m dap) (hb : Below W.heap.size W V) : FB w V ao n cap bo m dap :=
  ⟨(hb.block _ h.big).trans h.box, h.low.trans (hb.mono h.low.size), Nat.lt_of_lt_of_le h.big hb.size⟩
theorem FB.cells {w W : World} {ao : Option Addr} {n cap : Nat} {bo : Option Addr} {m dap : Nat} (h : FB w W ao n cap bo m dap) : W.cell? ⟨w.heap.size, 0, none⟩ = some (.slice ao n cap) ∧ W.cell? ⟨w.heap.size, 1, none⟩ = some (.slice bo m dap) :=
  ⟨heap_cell h.box rfl, heap_cell h.box rfl⟩
end Go.Proofs.YtonfkhkalodldabGreatDoor
end
