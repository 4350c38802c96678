/-
  Texts of the schema layer and of those beneath it, joined: SchNmR, SchOrC, SchNvR. Conditions stand at each contract.
-/
import Derived.WalkLawsBesides
import Derived.Test.YtclfjdnemafmeaaGreatDoorP02
import Derived.Test.YtclfjdnemafmeaaGreatDoorP10
import Derived.Test.YtclfjdnemafmeaaGreatDoorP14
import Derived.Test.YtclfjdnemafmeaaGreatDoorP25
import Derived.Test.YtclfjdnemafmeaaGreatDoorP27
set_option linter.unusedVariables false
set_option linter.unusedSimpArgs false
set_option linter.unnecessarySimpa false

section
/-
  Contracts of the specification's number and form. Condition: values of at most 1000000 bytes.
-/
set_option maxRecDepth 100000
namespace Go.Proofs.YtclfjdnemafmeaaGreatDoor
open Go.RowKit Go.PlainAid
theorem digB_zero : digB 48 = true := by decide
theorem rep_dig (z : Nat) : (List.replicate z (48 : UInt8)).all digB = true := by
  rw [List.all_eq_true]; intro x hx; rw [List.eq_of_mem_replicate hx]; exact digB_zero
theorem valA_zeros : ∀ (z : Nat) (u : List UInt8), valA 0 (List.replicate z 48 ++ u) = valA 0 u
  | 0, _ => rfl
  | z + 1, u => by
    rw [List.replicate_succ, List.cons_append, valA_cons]
    exact valA_zeros z u
theorem mag_all_val {l : List UInt8} (h : digS l = true) : Lib.parseMag l = if valD l < 18446744073709551616 then .ok (valD l) else .range := by
  unfold digS at h
  rw [Bool.and_eq_true] at h
  cases l with
  | nil => simp at h
  | cons c r =>
    unfold Lib.parseMag
    rw [if_neg (by simp)]
    exact parse_val _ 0 (by decide) h.2
theorem digS_app {z : Nat} {u : List UInt8} (hu : u ≠ []) : digS (List.replicate z 48 ++ u) = digS u := by
  unfold digS
  rw [List.all_append, rep_dig, Bool.true_and]
  cases u with
  | nil => exact absurd rfl hu
  | cons c r => cases z <;> rfl
/-- what number makes of the bytes behind the zeros -/
structure Num (s u : List UInt8) (mn : Bool) (t : List UInt8) : Prop where
  parts : s = if mn then 45 :: t else t
  plain : mn = false → t.head? ≠ some 45
  zeros : ∃ z, t = List.replicate z 48 ++ u ∧ (0 < z → u ≠ [])
theorem Num.strip {s u t : List UInt8} {mn : Bool} (h : Num s u mn t) : stripL s = t := by
  rw [h.parts]
  cases mn with
  | true => exact strip_minus t
  | false =>
    have hp := h.plain rfl
    show stripL t = t
    cases t with
    | nil => rfl
    | cons c r => exact strip_plain c r (fun e => hp (by rw [e]; rfl))
theorem num_none {s : ByteArray} {u t : List UInt8} {mn : Bool} (h : Num s.data.toList u mn t) (hu : digS u = false) : numS s = none := by
  unfold numS
  rw [h.strip]
  obtain ⟨z, e, hz⟩ := h.zeros
  by_cases h0 : u = []
  · have : z = 0 := by
      rcases Nat.eq_zero_or_pos z with k | k
      · exact k
      · exact absurd h0 (hz k)
    rw [e, this, h0]; rfl
  · rw [e, digS_app h0, hu]; rfl
theorem digS_head {c : UInt8} {r : List UInt8} (h : digB c = false) : digS (c :: r) = false := by unfold digS; rw [List.all_cons, h]; simp
theorem readI_neg_bad {u : List UInt8} (h : digsB u = false) : readI (45 :: u) = (0, 4) := readI_bad (by rw [dec_minus, h])
/-- the value that ReadInt reads of it -/
theorem num_read {s : ByteArray} {u t : List UInt8} {mn : Bool} (h : Num s.data.toList u mn t) (c : UInt8) (r : List UInt8) (hu : u = c :: r) (hd : digB c = true) (hx : c ≠ 48 ∨ r = []) :
    readI (if mn = true ∧ u ≠ [48] then 45 :: u else u) = ((numS s).getD 0, (readI (if mn = true ∧ u ≠ [48] then 45 :: u else u)).2) ∧ ((readI (if mn = true ∧ u ≠ [48] then 45 :: u else u)).2 == 0) = (numS s).isSome := by
  obtain ⟨z, e, hz⟩ := h.zeros
  have hne : u ≠ [] := by rw [hu]; simp
  have hst := h.strip
  have hdg := digB_bounds hd
  by_cases hall : digS u = true
  · have hdt : digS t = true := by rw [e, digS_app hne]; exact hall
    have hmag := mag_all_val hdt
    have hval : valD t = valD u := by unfold valD; rw [e]; exact valA_zeros z u
    rw [hval] at hmag
    have hN : numS s = (match Lib.atoiAll s.data.toList with | .ok v => some v | _ => none) := by unfold numS; rw [hst, if_pos hdt]; rfl
    have hplain : mn = false → Lib.atoiAll s.data.toList = Lib.signless (Lib.parseMag t) := fun hm => by
      have hp := h.parts
      rw [hm] at hp
      have hp : s.data.toList = t := hp
      rw [hp]
      cases ht : t with
      | nil => rw [ht] at hdt; cases hdt
      | cons a b =>
        have ha : digB a = true := by
          rw [ht] at hdt
          unfold digS at hdt
          simp only [Bool.and_eq_true, List.all_cons] at hdt
          exact hdt.2.1
        have hb := digB_bounds ha
        exact Lib.atoiAll_plain a b (by omega) (by omega)
    have hneg : mn = true → Lib.atoiAll s.data.toList = Lib.signed (Lib.parseMag t) := fun hm => by
      have hp := h.parts
      rw [hm] at hp
      have hp : s.data.toList = 45 :: t := hp
      rw [hp]
      exact Lib.atoiAll_minus t
    by_cases h48 : u = [48]
    · rw [if_neg (fun k => k.2 h48)]
      have h0 : valD u = 0 := by rw [h48]; rfl
      rw [h0, if_pos (by decide)] at hmag
      have ha : Lib.atoiAll s.data.toList = .ok 0 := by
        cases mn with
        | true => rw [hneg rfl, hmag, signed_small (by decide)]; rfl
        | false => rw [hplain rfl, hmag, signless_small (by decide)]; rfl
      rw [hN, ha, h48, readI_zero]
      exact ⟨rfl, rfl⟩
    · have hds : digsB u = true := by
        have hc : c ≠ 48 := by
          rcases hx with k | k
          · exact k
          · intro k2; exact h48 (by rw [hu, k2, k])
        unfold digS at hall
        rw [Bool.and_eq_true] at hall
        rw [hu]
        rw [hu] at hall
        show (!(c == 48) && _) = true
        rw [hall.2]
        simpa using hc
      cases mn with
      | true =>
        rw [if_pos ⟨rfl, h48⟩, readI_minus hds, hN, hneg rfl, hmag]
        by_cases hv : valD u ≤ 9223372036854775808
        · rw [if_pos hv, if_pos (by omega), signed_small hv]
          exact ⟨rfl, rfl⟩
        · rw [if_neg hv]
          by_cases hv2 : valD u < 18446744073709551616
          · rw [if_pos hv2, signed_big hv]
            exact ⟨rfl, rfl⟩
          · rw [if_neg hv2]
            exact ⟨rfl, rfl⟩
      | false =>
        rw [if_neg (fun k => by cases k.1), readI_plain hds, hN, hplain rfl, hmag]
        by_cases hv : valD u < 9223372036854775808
        · rw [if_pos hv, if_pos (by omega), signless_small hv]
          exact ⟨rfl, rfl⟩
        · rw [if_neg hv]
          by_cases hv2 : valD u < 18446744073709551616
          · rw [if_pos hv2, signless_big hv]
            exact ⟨rfl, rfl⟩
          · rw [if_neg hv2]
            exact ⟨rfl, rfl⟩
  · have hf : digS u = false := by simpa using hall
    have hN := num_none h hf
    have h48 : u ≠ [48] := fun k => by rw [k] at hf; revert hf; decide
    have hds : digsB u = false := by
      cases hd2 : digsB u with
      | false => rfl
      | true => rw [digs_S hd2] at hf; cases hf
    rw [hN]
    cases mn with
    | true => rw [if_pos ⟨rfl, h48⟩, readI_neg_bad hds]; exact ⟨rfl, rfl⟩
    | false =>
      rw [if_neg (fun k => by cases k.1), readI_bad (l := u) (by
        unfold decB
        have h1 : c ≠ 45 := fun k => by rw [k] at hdg; have : (45 : UInt8).toNat = 45 := rfl; omega
        rw [hu, strip_plain c r h1, ← hu, hds, Bool.or_false]
        exact decide_eq_false h48)]
      exact ⟨rfl, rfl⟩
theorem Num.step {s t : List UInt8} {u : List UInt8} {mn : Bool} (h : Num s (48 :: u) mn t) (hu : u ≠ []) : Num s u mn t :=
  ⟨h.parts, h.plain, by
    obtain ⟨z, e, _⟩ := h.zeros
    refine ⟨z + 1, ?_, fun _ => hu⟩
    rw [e, List.replicate_succ', List.append_assoc]; rfl⟩
theorem chr_list {u : ByteArray} (h : 0 < u.size) : u.data.toList = chr u 0 :: (u.extract 1 u.size).data.toList := by
  have := drop_chr u 0 h
  rw [List.drop_zero] at this
  rw [this, Lib.extract_from]
def strN0 : Value → Nat
  | .string s => s.size
  | _ => 0
set_option maxHeartbeats 8000000 in
theorem rnumber_s (s : ByteArray) (w : World) (hs : s.size ≤ 1000000) :
    Calls Tryz.prog 59 #[.string s] w fun e w' => e = .returned (.tuple #[.int .i64 ((numS s).getD 0), .bool (numS s).isSome]) ∧ w = w' := by
  obtain ⟨nn, hnn⟩ : ∃ x, (numS s).getD 0 = x := ⟨_, rfl⟩
  obtain ⟨ok, hok⟩ : ∃ x, (numS s).isSome = x := ⟨_, rfl⟩
  rw [hnn, hok]
  have HNk := Lib.hid (And.intro hnn hok)
  clear hnn hok
  have hbs := get_bt s
  have h00 := bt_nonneg s 0
  by_cases hp : 0 < s.size ∧ chr s 0 = 45
  · obtain ⟨hpos, h2⟩ := hp
    have e0 : (0 : Int) < (s.size : Int) := by omega
    have e0' : decide ((0 : Int) < (s.size : Int)) = true := decide_eq_true e0
    have h3 : (bt s 0 == 45) = true := by rw [bt_chr, h2]; rfl
    obtain ⟨t, ht⟩ : ∃ t, t = s.extract 1 s.size := ⟨_, rfl⟩
    have hdt : s.data.toList = 45 :: t.data.toList := by rw [chr_list hpos, h2, ht]
    have hts : t.size ≤ 1000000 := by have := congrArg List.length hdt; rw [List.length_cons, ← Lib.size_eq, ← Lib.size_eq] at this; omega
    have HNm := Lib.hid (show Num s.data.toList t.data.toList true t.data.toList from ⟨hdt, (fun h => by cases h), ⟨0, rfl, fun h => absurd h (Nat.lt_irrefl _)⟩⟩)
    clear hdt h2
    go_enter Tryz.func59, Tryz.ntmps59
    go_wp2_with fail
    rw [← ht]
    clear ht h3 e0 e0' hbs h00
    go_loopw [0] (fun s0 wr => ∃ u : ByteArray, s0 = .string u ∧ u.size ≤ 1000000 ∧ Hid (Num s.data.toList u.data.toList true t.data.toList) ∧ w = wr) (fun s0 _ => strN0 s0)
    case atStart => exact ⟨t, rfl, hts, HNm, rfl⟩
    case round =>
      obtain ⟨u, rfl, hus, HU, rfl⟩ := hrel
      have hbu := get_bt u
      have h00 := bt_nonneg u 0
      have HCh := Lib.hid (bt_chr u 0)
      by_cases h1 : 1 < u.size
      · have e1 : (1 : Int) < (u.size : Int) := by omega
        have e1' : decide ((1 : Int) < (u.size : Int)) = true := decide_eq_true e1
        have e2 : (0 : Int) < (u.size : Int) := by omega
        by_cases h48 : bt u 0 = 48
        · have e3 : (bt u 0 == 48) = true := by rw [h48]; rfl
          obtain ⟨u', hu'⟩ : ∃ x, x = u.extract 1 u.size := ⟨_, rfl⟩
          have HL := Lib.hid (show u.data.toList = 48 :: u'.data.toList by
            rw [chr_list (by omega), hu']
            congr 1
            have := HCh.out
            rw [h48] at this
            have h4 : (48 : UInt8).toNat = 48 := rfl
            exact UInt8.toNat_inj.1 (by omega))
          have hsz : u'.size + 1 = u.size := by rw [Lib.size_eq u, HL.out, List.length_cons, ← Lib.size_eq]
          have HU2 := Lib.hid (show Num s.data.toList u'.data.toList true t.data.toList by
            have := HU.out
            rw [HL.out] at this
            exact this.step (fun k => by rw [Lib.size_eq u', k] at hsz; simp at hsz; omega))
          go_wp2_with fail
          rw [← hu']
          go_roundw
          case rel => exact ⟨u', rfl, by omega, HU2, by first | exact rfl | trivial⟩
          case measure => show u'.size < u.size; omega
        · have e3 : (bt u 0 == 48) = false := by simpa using h48
          by_cases z0 : u.size = 0
          · have hz1 : u.toList.isEmpty = true := by rw [str_none]; exact decide_eq_true z0
            have hz2 : (u.toList == []) = true := by simpa using hz1
            have HN := Lib.hid (num_none HU.out (by rw [show u.data.toList = [] from List.length_eq_zero_iff.1 (by rw [← Lib.size_eq]; exact z0)]; rfl))
            go_wp2_with fail
            go_ret2
            exact ⟨by rw [← HNk.out.1, ← HNk.out.2, HN.out]; rfl, rfl⟩
          · have hz1 : u.toList.isEmpty = false := by rw [str_none]; exact decide_eq_false z0
            have hz2 : (u.toList == []) = false := by simpa using hz1
            have ex : (0 : Int) < (u.size : Int) := by omega
            have HL := Lib.hid (chr_list (u := u) (by omega))
            by_cases l48 : bt u 0 < 48
            · have e5 : decide (bt u 0 < 48) = true := decide_eq_true l48
              have HN := Lib.hid (num_none HU.out (by rw [HL.out]; exact digS_head (by unfold digB; have := HCh.out; rw [decide_eq_false (by omega)]; rfl)))
              go_wp2_with fail
              go_ret2
              exact ⟨by rw [← HNk.out.1, ← HNk.out.2, HN.out]; rfl, rfl⟩
            · have e5 : decide (bt u 0 < 48) = false := decide_eq_false l48
              by_cases l57 : 57 < bt u 0
              · have e6 : decide (57 < bt u 0) = true := decide_eq_true l57
                have HN := Lib.hid (num_none HU.out (by rw [HL.out]; exact digS_head (by unfold digB; have := HCh.out; rw [decide_eq_false (show ¬ (chr u 0).toNat ≤ 57 by omega), Bool.and_false])))
                go_wp2_with fail
                go_ret2
                exact ⟨by rw [← HNk.out.1, ← HNk.out.2, HN.out]; rfl, rfl⟩
              · have e6 : decide (57 < bt u 0) = false := decide_eq_false l57
                have HR := Lib.hid (num_read HU.out _ _ HL.out (by unfold digB; have := HCh.out; rw [decide_eq_true (by omega), decide_eq_true (by omega)]; rfl) (by left; intro k; have := HCh.out; rw [k] at this; have h4 : (48 : UInt8).toNat = 48 := rfl; omega))
                by_cases hz : u = ⟨#[48]⟩
                · have e7 : (u.toList == [48]) = true := by rw [hz, Lib.toList_data]; rfl
                  have e8 : (u.toList != [48]) = false := by rw [hz, Lib.toList_data]; rfl
                  have HR2 := Lib.hid (show readI u.data.toList = ((numS s).getD 0, (readI u.data.toList).2) ∧ ((readI u.data.toList).2 == 0) = (numS s).isSome by
                    have := HR.out
                    rwa [if_neg (fun k => k.2 (by rw [hz]))] at this)
                  have HCt := Lib.hid (rreadInt_s u w (by omega))
                  obtain ⟨e2, he2⟩ : ∃ x, (readI u.data.toList).2 = x := ⟨_, rfl⟩
                  have he3 : (readI u.data.toList).1 = nn := (congrArg Prod.fst HR2.out.1).trans HNk.out.1
                  have he4 : (e2 == 0) = ok := by rw [← he2]; exact HR2.out.2.trans HNk.out.2
                  rw [he2, he3] at HCt
                  clear he2 he3
                  clear hz
                  go_wp2_with fail
                  refine HCt.out.mono ?_
                  rintro e w' ⟨rfl, rfl⟩
                  go_wp2_with fail
                  go_ret2
                  exact ⟨rfl, rfl⟩
                · have hz' : u.data.toList ≠ [48] := fun k => hz (by rw [← Lib.mk_data u, k])
                  have e7 : (u.toList == [48]) = false := by rw [Lib.toList_data]; simpa using hz'
                  have e8 : (u.toList != [48]) = true := by rw [Lib.toList_data]; simpa using hz'
                  obtain ⟨q, hq⟩ : ∃ x : ByteArray, x = ⟨#[45]⟩ ++ u := ⟨_, rfl⟩
                  have hqd : q.data.toList = 45 :: u.data.toList := by rw [hq, ByteArray.data_append, Array.toList_append]; rfl
                  have hqs : q.size = u.size + 1 := by rw [Lib.size_eq, hqd, List.length_cons, ← Lib.size_eq]
                  have HR2 := Lib.hid (show readI q.data.toList = ((numS s).getD 0, (readI q.data.toList).2) ∧ ((readI q.data.toList).2 == 0) = (numS s).isSome by
                    have := HR.out
                    rw [hqd]
                    rwa [if_pos ⟨rfl, hz'⟩] at this)
                  have HCt := Lib.hid (rreadInt_s q w (by omega))
                  obtain ⟨e2, he2⟩ : ∃ x, (readI q.data.toList).2 = x := ⟨_, rfl⟩
                  have he3 : (readI q.data.toList).1 = nn := (congrArg Prod.fst HR2.out.1).trans HNk.out.1
                  have he4 : (e2 == 0) = ok := by rw [← he2]; exact HR2.out.2.trans HNk.out.2
                  rw [he2, he3] at HCt
                  clear he2 he3
                  clear hz hz' hqd
                  go_wp2_with fail
                  rw [← hq]
                  refine HCt.out.mono ?_
                  rintro e w' ⟨rfl, rfl⟩
                  go_wp2_with fail
                  go_ret2
                  exact ⟨rfl, rfl⟩
      · have e1 : ¬ (1 : Int) < (u.size : Int) := by omega
        have e1' : decide ((1 : Int) < (u.size : Int)) = false := decide_eq_false e1
        by_cases z0 : u.size = 0
        · have hz1 : u.toList.isEmpty = true := by rw [str_none]; exact decide_eq_true z0
          have hz2 : (u.toList == []) = true := by simpa using hz1
          have HN := Lib.hid (num_none HU.out (by rw [show u.data.toList = [] from List.length_eq_zero_iff.1 (by rw [← Lib.size_eq]; exact z0)]; rfl))
          go_wp2_with fail
          go_ret2
          exact ⟨by rw [← HNk.out.1, ← HNk.out.2, HN.out]; rfl, rfl⟩
        · have hz1 : u.toList.isEmpty = false := by rw [str_none]; exact decide_eq_false z0
          have hz2 : (u.toList == []) = false := by simpa using hz1
          have ex : (0 : Int) < (u.size : Int) := by omega
          have HL := Lib.hid (chr_list (u := u) (by omega))
          by_cases l48 : bt u 0 < 48
          · have e5 : decide (bt u 0 < 48) = true := decide_eq_true l48
            have HN := Lib.hid (num_none HU.out (by rw [HL.out]; exact digS_head (by unfold digB; have := HCh.out; rw [decide_eq_false (by omega)]; rfl)))
            go_wp2_with fail
            go_ret2
            exact ⟨by rw [← HNk.out.1, ← HNk.out.2, HN.out]; rfl, rfl⟩
          · have e5 : decide (bt u 0 < 48) = false := decide_eq_false l48
            by_cases l57 : 57 < bt u 0
            · have e6 : decide (57 < bt u 0) = true := decide_eq_true l57
              have HN := Lib.hid (num_none HU.out (by rw [HL.out]; exact digS_head (by unfold digB; have := HCh.out; rw [decide_eq_false (show ¬ (chr u 0).toNat ≤ 57 by omega), Bool.and_false])))
              go_wp2_with fail
              go_ret2
              exact ⟨by rw [← HNk.out.1, ← HNk.out.2, HN.out]; rfl, rfl⟩
            · have e6 : decide (57 < bt u 0) = false := decide_eq_false l57
              have HR := Lib.hid (num_read HU.out _ _ HL.out (by unfold digB; have := HCh.out; rw [decide_eq_true (by omega), decide_eq_true (by omega)]; rfl) (by right; refine List.length_eq_zero_iff.1 ?_; have := congrArg List.length HL.out; rw [List.length_cons, ← Lib.size_eq] at this; omega))
              by_cases hz : u = ⟨#[48]⟩
              · have e7 : (u.toList == [48]) = true := by rw [hz, Lib.toList_data]; rfl
                have e8 : (u.toList != [48]) = false := by rw [hz, Lib.toList_data]; rfl
                have HR2 := Lib.hid (show readI u.data.toList = ((numS s).getD 0, (readI u.data.toList).2) ∧ ((readI u.data.toList).2 == 0) = (numS s).isSome by
                  have := HR.out
                  rwa [if_neg (fun k => k.2 (by rw [hz]))] at this)
                have HCt := Lib.hid (rreadInt_s u w (by omega))
                obtain ⟨e2, he2⟩ : ∃ x, (readI u.data.toList).2 = x := ⟨_, rfl⟩
                have he3 : (readI u.data.toList).1 = nn := (congrArg Prod.fst HR2.out.1).trans HNk.out.1
                have he4 : (e2 == 0) = ok := by rw [← he2]; exact HR2.out.2.trans HNk.out.2
                rw [he2, he3] at HCt
                clear he2 he3
                clear hz
                go_wp2_with fail
                refine HCt.out.mono ?_
                rintro e w' ⟨rfl, rfl⟩
                go_wp2_with fail
                go_ret2
                exact ⟨rfl, rfl⟩
              · have hz' : u.data.toList ≠ [48] := fun k => hz (by rw [← Lib.mk_data u, k])
                have e7 : (u.toList == [48]) = false := by rw [Lib.toList_data]; simpa using hz'
                have e8 : (u.toList != [48]) = true := by rw [Lib.toList_data]; simpa using hz'
                obtain ⟨q, hq⟩ : ∃ x : ByteArray, x = ⟨#[45]⟩ ++ u := ⟨_, rfl⟩
                have hqd : q.data.toList = 45 :: u.data.toList := by rw [hq, ByteArray.data_append, Array.toList_append]; rfl
                have hqs : q.size = u.size + 1 := by rw [Lib.size_eq, hqd, List.length_cons, ← Lib.size_eq]
                have HR2 := Lib.hid (show readI q.data.toList = ((numS s).getD 0, (readI q.data.toList).2) ∧ ((readI q.data.toList).2 == 0) = (numS s).isSome by
                  have := HR.out
                  rw [hqd]
                  rwa [if_pos ⟨rfl, hz'⟩] at this)
                have HCt := Lib.hid (rreadInt_s q w (by omega))
                obtain ⟨e2, he2⟩ : ∃ x, (readI q.data.toList).2 = x := ⟨_, rfl⟩
                have he3 : (readI q.data.toList).1 = nn := (congrArg Prod.fst HR2.out.1).trans HNk.out.1
                have he4 : (e2 == 0) = ok := by rw [← he2]; exact HR2.out.2.trans HNk.out.2
                rw [he2, he3] at HCt
                clear he2 he3
                clear hz hz' hqd
                go_wp2_with fail
                rw [← hq]
                refine HCt.out.mono ?_
                rintro e w' ⟨rfl, rfl⟩
                go_wp2_with fail
                go_ret2
                exact ⟨rfl, rfl⟩
  · have HP := Lib.hid hp
    clear hp
    obtain ⟨t, ht⟩ : ∃ t, t = s := ⟨_, rfl⟩
    have HNm := Lib.hid (show Num s.data.toList t.data.toList false t.data.toList by
      rw [ht]
      refine ⟨rfl, fun _ h => HP.out ?_, ⟨0, rfl, fun h => absurd h (Nat.lt_irrefl _)⟩⟩
      have hpos : 0 < s.size := by
        rcases Nat.eq_zero_or_pos s.size with k | k
        · rw [show s.data.toList = [] from List.length_eq_zero_iff.1 (by rw [← Lib.size_eq]; exact k)] at h; cases h
        · exact k
      refine ⟨hpos, ?_⟩
      rw [chr_list hpos] at h
      exact Option.some.inj h)
    have hts : t.size ≤ 1000000 := by rw [ht]; exact hs
    have hfalse : ∀ P : Prop, ((0 : Int) < (s.size : Int) → bt s 0 = 45 → P) := fun P h1 h2 => absurd ⟨by omega, by rw [bt_chr] at h2; have h4 : (45 : UInt8).toNat = 45 := rfl; exact UInt8.toNat_inj.1 (by omega)⟩ HP.out
    have HF := Lib.hid hfalse
    clear hfalse
    by_cases hpos : 0 < s.size
    · have e0 : (0 : Int) < (s.size : Int) := by omega
      have e0' : decide ((0 : Int) < (s.size : Int)) = true := decide_eq_true e0
      have h3 : (bt s 0 == 45) = false := by
        cases h : (bt s 0 == 45) with
        | false => rfl
        | true => exact HF.out _ e0 (by simpa using h)
      go_enter Tryz.func59, Tryz.ntmps59
      go_wp2_with fail
      clear h3 e0 e0' hbs h00
      subst ht
      go_loopw [0] (fun s0 wr => ∃ u : ByteArray, s0 = .string u ∧ u.size ≤ 1000000 ∧ Hid (Num t.data.toList u.data.toList false t.data.toList) ∧ w = wr) (fun s0 _ => strN0 s0)
      case atStart => exact ⟨t, rfl, hts, HNm, rfl⟩
      case round =>
        obtain ⟨u, rfl, hus, HU, rfl⟩ := hrel
        have hbu := get_bt u
        have h00 := bt_nonneg u 0
        have HCh := Lib.hid (bt_chr u 0)
        by_cases h1 : 1 < u.size
        · have e1 : (1 : Int) < (u.size : Int) := by omega
          have e1' : decide ((1 : Int) < (u.size : Int)) = true := decide_eq_true e1
          have e2 : (0 : Int) < (u.size : Int) := by omega
          by_cases h48 : bt u 0 = 48
          · have e3 : (bt u 0 == 48) = true := by rw [h48]; rfl
            obtain ⟨u', hu'⟩ : ∃ x, x = u.extract 1 u.size := ⟨_, rfl⟩
            have HL := Lib.hid (show u.data.toList = 48 :: u'.data.toList by
              rw [chr_list (by omega), hu']
              congr 1
              have := HCh.out
              rw [h48] at this
              have h4 : (48 : UInt8).toNat = 48 := rfl
              exact UInt8.toNat_inj.1 (by omega))
            have hsz : u'.size + 1 = u.size := by rw [Lib.size_eq u, HL.out, List.length_cons, ← Lib.size_eq]
            have HU2 := Lib.hid (show Num t.data.toList u'.data.toList false t.data.toList by
              have := HU.out
              rw [HL.out] at this
              exact this.step (fun k => by rw [Lib.size_eq u', k] at hsz; simp at hsz; omega))
            go_wp2_with fail
            rw [← hu']
            go_roundw
            case rel => exact ⟨u', rfl, by omega, HU2, by first | exact rfl | trivial⟩
            case measure => show u'.size < u.size; omega
          · have e3 : (bt u 0 == 48) = false := by simpa using h48
            by_cases z0 : u.size = 0
            · have hz1 : u.toList.isEmpty = true := by rw [str_none]; exact decide_eq_true z0
              have hz2 : (u.toList == []) = true := by simpa using hz1
              have HN := Lib.hid (num_none HU.out (by rw [show u.data.toList = [] from List.length_eq_zero_iff.1 (by rw [← Lib.size_eq]; exact z0)]; rfl))
              go_wp2_with fail
              go_ret2
              exact ⟨by rw [← HNk.out.1, ← HNk.out.2, HN.out]; rfl, rfl⟩
            · have hz1 : u.toList.isEmpty = false := by rw [str_none]; exact decide_eq_false z0
              have hz2 : (u.toList == []) = false := by simpa using hz1
              have ex : (0 : Int) < (u.size : Int) := by omega
              have HL := Lib.hid (chr_list (u := u) (by omega))
              by_cases l48 : bt u 0 < 48
              · have e5 : decide (bt u 0 < 48) = true := decide_eq_true l48
                have HN := Lib.hid (num_none HU.out (by rw [HL.out]; exact digS_head (by unfold digB; have := HCh.out; rw [decide_eq_false (by omega)]; rfl)))
                go_wp2_with fail
                go_ret2
                exact ⟨by rw [← HNk.out.1, ← HNk.out.2, HN.out]; rfl, rfl⟩
              · have e5 : decide (bt u 0 < 48) = false := decide_eq_false l48
                by_cases l57 : 57 < bt u 0
                · have e6 : decide (57 < bt u 0) = true := decide_eq_true l57
                  have HN := Lib.hid (num_none HU.out (by rw [HL.out]; exact digS_head (by unfold digB; have := HCh.out; rw [decide_eq_false (show ¬ (chr u 0).toNat ≤ 57 by omega), Bool.and_false])))
                  go_wp2_with fail
                  go_ret2
                  exact ⟨by rw [← HNk.out.1, ← HNk.out.2, HN.out]; rfl, rfl⟩
                · have e6 : decide (57 < bt u 0) = false := decide_eq_false l57
                  have HR := Lib.hid (num_read HU.out _ _ HL.out (by unfold digB; have := HCh.out; rw [decide_eq_true (by omega), decide_eq_true (by omega)]; rfl) (by left; intro k; have := HCh.out; rw [k] at this; have h4 : (48 : UInt8).toNat = 48 := rfl; omega))
                  have HR2 := Lib.hid (show readI u.data.toList = ((numS t).getD 0, (readI u.data.toList).2) ∧ ((readI u.data.toList).2 == 0) = (numS t).isSome by
                    have := HR.out
                    rwa [if_neg (fun k => by cases k.1)] at this)
                  have HCt := Lib.hid (rreadInt_s u w (by omega))
                  obtain ⟨e2, he2⟩ : ∃ x, (readI u.data.toList).2 = x := ⟨_, rfl⟩
                  have he3 : (readI u.data.toList).1 = nn := (congrArg Prod.fst HR2.out.1).trans HNk.out.1
                  have he4 : (e2 == 0) = ok := by rw [← he2]; exact HR2.out.2.trans HNk.out.2
                  rw [he2, he3] at HCt
                  clear he2 he3
                  go_wp2_with fail
                  refine HCt.out.mono ?_
                  rintro e w' ⟨rfl, rfl⟩
                  go_wp2_with fail
                  go_ret2
                  exact ⟨rfl, rfl⟩
        · have e1 : ¬ (1 : Int) < (u.size : Int) := by omega
          have e1' : decide ((1 : Int) < (u.size : Int)) = false := decide_eq_false e1
          by_cases z0 : u.size = 0
          · have hz1 : u.toList.isEmpty = true := by rw [str_none]; exact decide_eq_true z0
            have hz2 : (u.toList == []) = true := by simpa using hz1
            have HN := Lib.hid (num_none HU.out (by rw [show u.data.toList = [] from List.length_eq_zero_iff.1 (by rw [← Lib.size_eq]; exact z0)]; rfl))
            go_wp2_with fail
            go_ret2
            exact ⟨by rw [← HNk.out.1, ← HNk.out.2, HN.out]; rfl, rfl⟩
          · have hz1 : u.toList.isEmpty = false := by rw [str_none]; exact decide_eq_false z0
            have hz2 : (u.toList == []) = false := by simpa using hz1
            have ex : (0 : Int) < (u.size : Int) := by omega
            have HL := Lib.hid (chr_list (u := u) (by omega))
            by_cases l48 : bt u 0 < 48
            · have e5 : decide (bt u 0 < 48) = true := decide_eq_true l48
              have HN := Lib.hid (num_none HU.out (by rw [HL.out]; exact digS_head (by unfold digB; have := HCh.out; rw [decide_eq_false (by omega)]; rfl)))
              go_wp2_with fail
              go_ret2
              exact ⟨by rw [← HNk.out.1, ← HNk.out.2, HN.out]; rfl, rfl⟩
            · have e5 : decide (bt u 0 < 48) = false := decide_eq_false l48
              by_cases l57 : 57 < bt u 0
              · have e6 : decide (57 < bt u 0) = true := decide_eq_true l57
                have HN := Lib.hid (num_none HU.out (by rw [HL.out]; exact digS_head (by unfold digB; have := HCh.out; rw [decide_eq_false (show ¬ (chr u 0).toNat ≤ 57 by omega), Bool.and_false])))
                go_wp2_with fail
                go_ret2
                exact ⟨by rw [← HNk.out.1, ← HNk.out.2, HN.out]; rfl, rfl⟩
              · have e6 : decide (57 < bt u 0) = false := decide_eq_false l57
                have HR := Lib.hid (num_read HU.out _ _ HL.out (by unfold digB; have := HCh.out; rw [decide_eq_true (by omega), decide_eq_true (by omega)]; rfl) (by right; refine List.length_eq_zero_iff.1 ?_; have := congrArg List.length HL.out; rw [List.length_cons, ← Lib.size_eq] at this; omega))
                have HR2 := Lib.hid (show readI u.data.toList = ((numS t).getD 0, (readI u.data.toList).2) ∧ ((readI u.data.toList).2 == 0) = (numS t).isSome by
                  have := HR.out
                  rwa [if_neg (fun k => by cases k.1)] at this)
                have HCt := Lib.hid (rreadInt_s u w (by omega))
                obtain ⟨e2, he2⟩ : ∃ x, (readI u.data.toList).2 = x := ⟨_, rfl⟩
                have he3 : (readI u.data.toList).1 = nn := (congrArg Prod.fst HR2.out.1).trans HNk.out.1
                have he4 : (e2 == 0) = ok := by rw [← he2]; exact HR2.out.2.trans HNk.out.2
                rw [he2, he3] at HCt
                clear he2 he3
                go_wp2_with fail
                refine HCt.out.mono ?_
                rintro e w' ⟨rfl, rfl⟩
                go_wp2_with fail
                go_ret2
                exact ⟨rfl, rfl⟩
    · have e0 : ¬ (0 : Int) < (s.size : Int) := by omega
      have e0' : decide ((0 : Int) < (s.size : Int)) = false := decide_eq_false e0
      go_enter Tryz.func59, Tryz.ntmps59
      go_wp2_with fail
      clear e0 e0' hbs h00
      subst ht
      go_loopw [0] (fun s0 wr => ∃ u : ByteArray, s0 = .string u ∧ u.size ≤ 1000000 ∧ Hid (Num t.data.toList u.data.toList false t.data.toList) ∧ w = wr) (fun s0 _ => strN0 s0)
      case atStart => exact ⟨t, rfl, hts, HNm, rfl⟩
      case round =>
        obtain ⟨u, rfl, hus, HU, rfl⟩ := hrel
        have hbu := get_bt u
        have h00 := bt_nonneg u 0
        have HCh := Lib.hid (bt_chr u 0)
        by_cases h1 : 1 < u.size
        · have e1 : (1 : Int) < (u.size : Int) := by omega
          have e1' : decide ((1 : Int) < (u.size : Int)) = true := decide_eq_true e1
          have e2 : (0 : Int) < (u.size : Int) := by omega
          by_cases h48 : bt u 0 = 48
          · have e3 : (bt u 0 == 48) = true := by rw [h48]; rfl
            obtain ⟨u', hu'⟩ : ∃ x, x = u.extract 1 u.size := ⟨_, rfl⟩
            have HL := Lib.hid (show u.data.toList = 48 :: u'.data.toList by
              rw [chr_list (by omega), hu']
              congr 1
              have := HCh.out
              rw [h48] at this
              have h4 : (48 : UInt8).toNat = 48 := rfl
              exact UInt8.toNat_inj.1 (by omega))
            have hsz : u'.size + 1 = u.size := by rw [Lib.size_eq u, HL.out, List.length_cons, ← Lib.size_eq]
            have HU2 := Lib.hid (show Num t.data.toList u'.data.toList false t.data.toList by
              have := HU.out
              rw [HL.out] at this
              exact this.step (fun k => by rw [Lib.size_eq u', k] at hsz; simp at hsz; omega))
            go_wp2_with fail
            rw [← hu']
            go_roundw
            case rel => exact ⟨u', rfl, by omega, HU2, by first | exact rfl | trivial⟩
            case measure => show u'.size < u.size; omega
          · have e3 : (bt u 0 == 48) = false := by simpa using h48
            by_cases z0 : u.size = 0
            · have hz1 : u.toList.isEmpty = true := by rw [str_none]; exact decide_eq_true z0
              have hz2 : (u.toList == []) = true := by simpa using hz1
              have HN := Lib.hid (num_none HU.out (by rw [show u.data.toList = [] from List.length_eq_zero_iff.1 (by rw [← Lib.size_eq]; exact z0)]; rfl))
              go_wp2_with fail
              go_ret2
              exact ⟨by rw [← HNk.out.1, ← HNk.out.2, HN.out]; rfl, rfl⟩
            · have hz1 : u.toList.isEmpty = false := by rw [str_none]; exact decide_eq_false z0
              have hz2 : (u.toList == []) = false := by simpa using hz1
              have ex : (0 : Int) < (u.size : Int) := by omega
              have HL := Lib.hid (chr_list (u := u) (by omega))
              by_cases l48 : bt u 0 < 48
              · have e5 : decide (bt u 0 < 48) = true := decide_eq_true l48
                have HN := Lib.hid (num_none HU.out (by rw [HL.out]; exact digS_head (by unfold digB; have := HCh.out; rw [decide_eq_false (by omega)]; rfl)))
                go_wp2_with fail
                go_ret2
                exact ⟨by rw [← HNk.out.1, ← HNk.out.2, HN.out]; rfl, rfl⟩
              · have e5 : decide (bt u 0 < 48) = false := decide_eq_false l48
                by_cases l57 : 57 < bt u 0
                · have e6 : decide (57 < bt u 0) = true := decide_eq_true l57
                  have HN := Lib.hid (num_none HU.out (by rw [HL.out]; exact digS_head (by unfold digB; have := HCh.out; rw [decide_eq_false (show ¬ (chr u 0).toNat ≤ 57 by omega), Bool.and_false])))
                  go_wp2_with fail
                  go_ret2
                  exact ⟨by rw [← HNk.out.1, ← HNk.out.2, HN.out]; rfl, rfl⟩
                · have e6 : decide (57 < bt u 0) = false := decide_eq_false l57
                  have HR := Lib.hid (num_read HU.out _ _ HL.out (by unfold digB; have := HCh.out; rw [decide_eq_true (by omega), decide_eq_true (by omega)]; rfl) (by left; intro k; have := HCh.out; rw [k] at this; have h4 : (48 : UInt8).toNat = 48 := rfl; omega))
                  have HR2 := Lib.hid (show readI u.data.toList = ((numS t).getD 0, (readI u.data.toList).2) ∧ ((readI u.data.toList).2 == 0) = (numS t).isSome by
                    have := HR.out
                    rwa [if_neg (fun k => by cases k.1)] at this)
                  have HCt := Lib.hid (rreadInt_s u w (by omega))
                  obtain ⟨e2, he2⟩ : ∃ x, (readI u.data.toList).2 = x := ⟨_, rfl⟩
                  have he3 : (readI u.data.toList).1 = nn := (congrArg Prod.fst HR2.out.1).trans HNk.out.1
                  have he4 : (e2 == 0) = ok := by rw [← he2]; exact HR2.out.2.trans HNk.out.2
                  rw [he2, he3] at HCt
                  clear he2 he3
                  go_wp2_with fail
                  refine HCt.out.mono ?_
                  rintro e w' ⟨rfl, rfl⟩
                  go_wp2_with fail
                  go_ret2
                  exact ⟨rfl, rfl⟩
        · have e1 : ¬ (1 : Int) < (u.size : Int) := by omega
          have e1' : decide ((1 : Int) < (u.size : Int)) = false := decide_eq_false e1
          by_cases z0 : u.size = 0
          · have hz1 : u.toList.isEmpty = true := by rw [str_none]; exact decide_eq_true z0
            have hz2 : (u.toList == []) = true := by simpa using hz1
            have HN := Lib.hid (num_none HU.out (by rw [show u.data.toList = [] from List.length_eq_zero_iff.1 (by rw [← Lib.size_eq]; exact z0)]; rfl))
            go_wp2_with fail
            go_ret2
            exact ⟨by rw [← HNk.out.1, ← HNk.out.2, HN.out]; rfl, rfl⟩
          · have hz1 : u.toList.isEmpty = false := by rw [str_none]; exact decide_eq_false z0
            have hz2 : (u.toList == []) = false := by simpa using hz1
            have ex : (0 : Int) < (u.size : Int) := by omega
            have HL := Lib.hid (chr_list (u := u) (by omega))
            by_cases l48 : bt u 0 < 48
            · have e5 : decide (bt u 0 < 48) = true := decide_eq_true l48
              have HN := Lib.hid (num_none HU.out (by rw [HL.out]; exact digS_head (by unfold digB; have := HCh.out; rw [decide_eq_false (by omega)]; rfl)))
              go_wp2_with fail
              go_ret2
              exact ⟨by rw [← HNk.out.1, ← HNk.out.2, HN.out]; rfl, rfl⟩
            · have e5 : decide (bt u 0 < 48) = false := decide_eq_false l48
              by_cases l57 : 57 < bt u 0
              · have e6 : decide (57 < bt u 0) = true := decide_eq_true l57
                have HN := Lib.hid (num_none HU.out (by rw [HL.out]; exact digS_head (by unfold digB; have := HCh.out; rw [decide_eq_false (show ¬ (chr u 0).toNat ≤ 57 by omega), Bool.and_false])))
                go_wp2_with fail
                go_ret2
                exact ⟨by rw [← HNk.out.1, ← HNk.out.2, HN.out]; rfl, rfl⟩
              · have e6 : decide (57 < bt u 0) = false := decide_eq_false l57
                have HR := Lib.hid (num_read HU.out _ _ HL.out (by unfold digB; have := HCh.out; rw [decide_eq_true (by omega), decide_eq_true (by omega)]; rfl) (by right; refine List.length_eq_zero_iff.1 ?_; have := congrArg List.length HL.out; rw [List.length_cons, ← Lib.size_eq] at this; omega))
                have HR2 := Lib.hid (show readI u.data.toList = ((numS t).getD 0, (readI u.data.toList).2) ∧ ((readI u.data.toList).2 == 0) = (numS t).isSome by
                  have := HR.out
                  rwa [if_neg (fun k => by cases k.1)] at this)
                have HCt := Lib.hid (rreadInt_s u w (by omega))
                obtain ⟨e2, he2⟩ : ∃ x, (readI u.data.toList).2 = x := ⟨_, rfl⟩
                have he3 : (readI u.data.toList).1 = nn := (congrArg Prod.fst HR2.out.1).trans HNk.out.1
                have he4 : (e2 == 0) = ok := by rw [← he2]; exact HR2.out.2.trans HNk.out.2
                rw [he2, he3] at HCt
                clear he2 he3
                go_wp2_with fail
                refine HCt.out.mono ?_
                rintro e w' ⟨rfl, rfl⟩
                go_wp2_with fail
                go_ret2
                exact ⟨rfl, rfl⟩
end Go.Proofs.YtclfjdnemafmeaaGreatDoor
end

section
/-
  Contract of the specification's Order. No condition.
-/
namespace Go.Proofs.YtclfjdnemafmeaaGreatDoor
open Go.RowKit Go.PlainAid
end Go.Proofs.YtclfjdnemafmeaaGreatDoor
end

section
/-
  Contracts of the specification's form, Normal and Compare. Condition: values of at most 1000000 bytes.
-/
set_option maxRecDepth 100000
namespace Go.Proofs.YtclfjdnemafmeaaGreatDoor
open Go.RowKit Go.PlainAid
theorem numS_getD (s : ByteArray) : -9223372036854775808 ≤ (numS s).getD 0 ∧ (numS s).getD 0 ≤ 9223372036854775807 := by
  cases h : numS s with
  | none => exact ⟨by decide, by decide⟩
  | some n => exact numS_range h
set_option maxHeartbeats 8000000 in
theorem rform_s (x : Int) (s : ByteArray) (w : World) (hs : s.size ≤ 1000000) :
    Calls Tryz.prog 56 #[.int .i64 x, .string s] w fun e w' => ∃ f : ByteArray, e = .returned (.tuple #[.string f, .bool (formS x s).isSome]) ∧ (∀ g, formS x s = some g → f = g) ∧ Below w.heap.size w w' := by
  by_cases h1 : x = 1
  · subst h1
    have HE := Lib.hid (show formS 1 s = some (foldS s) from rfl)
    go_enter Tryz.func56, Tryz.ntmps56
    go_wp2_with fail
    refine (rFold_s s _ (by omega)).mono ?_
    rintro e w1 ⟨rfl, hb⟩
    have HB := Lib.hid hb; clear hb
    go_wp2_with fail
    go_ret2
    exact ⟨_, by rw [HE.out]; rfl, (fun g hg => by rw [HE.out] at hg; exact Option.some.inj hg), HB.out⟩
  · by_cases h2 : x = 2
    · subst h2
      have HE := Lib.hid (show formS 2 s = some s from rfl)
      go_enter Tryz.func56, Tryz.ntmps56
      go_wp2_with fail
      go_ret2
      exact ⟨_, by rw [HE.out]; rfl, (fun g hg => by rw [HE.out] at hg; exact Option.some.inj hg), Below.refl _ _⟩
    · by_cases h3 : x = 3
      · subst h3
        have HE := Lib.hid (show formS 3 s = (numS s).map fun n => ofL (Lib.itoa n) from rfl)
        obtain ⟨hn1, hn2⟩ := numS_getD s
        have HI := Lib.hid (fun W => rint_s ((numS s).getD 0) W hn1 hn2)
        obtain ⟨n, hn⟩ : ∃ x, (numS s).getD 0 = x := ⟨_, rfl⟩
        obtain ⟨ok, hok⟩ : ∃ x, (numS s).isSome = x := ⟨_, rfl⟩
        have HN := Lib.hid (rnumber_s s w hs)
        rw [hn, hok] at HN
        rw [hn] at HI
        have HQ := Lib.hid (And.intro hn hok)
        clear hn hok hn1 hn2
        go_enter Tryz.func56, Tryz.ntmps56
        go_wp2_with fail
        refine HN.out.mono ?_
        rintro e w1 ⟨rfl, rfl⟩
        go_wp2_with fail
        refine (HI.out _).mono ?_
        rintro e w2 ⟨rfl, hb⟩
        have HB := Lib.hid hb; clear hb
        go_wp2_with fail
        go_ret2
        refine ⟨_, by rw [HE.out, Option.isSome_map, HQ.out.2]; rfl, (fun g hg => ?_), HB.out⟩
        rw [HE.out] at hg
        rw [← HQ.out.1]
        cases e : numS s with
        | none => rw [e] at hg; cases hg
        | some m => rw [e] at hg; exact Option.some.inj hg
      · by_cases h4 : x = 4
        · subst h4
          have HE := Lib.hid (show formS 4 s = if Nam.cleanE s = 0 then some (Nam.cleanV s) else none from rfl)
          go_enter Tryz.func56, Tryz.ntmps56
          go_wp2_with fail
          refine (Nam.rclean0_s s _ hs).mono ?_
          rintro e w1 ⟨rfl, hb⟩
          have HB := Lib.hid hb; clear hb
          by_cases hc : Nam.cleanE s = 0
          · have HE2 := Lib.hid (show formS 4 s = some (Nam.cleanV s) from HE.out.trans (if_pos hc))
            rw [hc]
            go_wp2_with fail
            go_ret2
            exact ⟨_, by rw [HE2.out]; rfl, (fun g hg => by rw [HE2.out] at hg; exact Option.some.inj hg), HB.out⟩
          · have HE2 := Lib.hid (show formS 4 s = none from HE.out.trans (if_neg hc))
            obtain ⟨ec, hec⟩ : ∃ e, Nam.cleanE s = e := ⟨_, rfl⟩
            rw [hec] at hc ⊢
            clear hec
            have hq : (ec == 0) = false := beq_false_of_ne hc
            go_wp2_with fail
            go_ret2
            exact ⟨_, by rw [HE2.out]; rfl, (fun g hg => by rw [HE2.out] at hg; cases hg), HB.out⟩
        · have HE := Lib.hid (show formS x s = truthS s by unfold formS; rw [if_neg h1, if_neg h2, if_neg h3, if_neg h4])
          have q1 : (x == 1) = false := beq_false_of_ne h1
          have q2 : (x == 2) = false := beq_false_of_ne h2
          have q3 : (x == 3) = false := beq_false_of_ne h3
          have q4 : (x == 4) = false := beq_false_of_ne h4
          obtain ⟨lw, hlw⟩ : ∃ x, lowS s = x := ⟨_, rfl⟩
          have HL := Lib.hid (fun W => rLower_s s W (by omega))
          rw [hlw] at HL
          have HE2 := Lib.hid (show formS x s = if lw = trueS then some ⟨#[84, 82, 85, 69]⟩ else if lw = falseS then some ⟨#[70, 65, 76, 83, 69]⟩ else none by rw [HE.out]; unfold truthS; rw [hlw])
          clear HE hlw
          go_enter Tryz.func56, Tryz.ntmps56
          go_wp2_with fail
          refine (HL.out _).mono ?_
          rintro e w1 ⟨rfl, hb⟩
          have HB := Lib.hid hb; clear hb
          by_cases ht : lw = trueS
          · have HE3 := Lib.hid (show formS x s = some ⟨#[84, 82, 85, 69]⟩ by rw [HE2.out, if_pos ht])
            have t1 : (lw.toList == [116, 114, 117, 101]) = true := by rw [ht, Lib.toList_data]; rfl
            clear ht
            go_wp2_with fail
            go_ret2
            exact ⟨_, by rw [HE3.out]; rfl, (fun g hg => by rw [HE3.out] at hg; exact Option.some.inj hg), HB.out⟩
          · have t1 : (lw.toList == [116, 114, 117, 101]) = false := by
              rw [Lib.toList_data]
              exact beq_false_of_ne (fun k => ht (by rw [← Lib.mk_data lw, k]; rfl))
            go_wp2_with fail
            refine (HL.out _).mono ?_
            rintro e w2 ⟨rfl, hb⟩
            have HB2 := Lib.hid (HB.out.trans (hb.mono HB.out.size)); clear hb
            by_cases hf : lw = falseS
            · have HE3 := Lib.hid (show formS x s = some ⟨#[70, 65, 76, 83, 69]⟩ by rw [HE2.out, if_neg ht, if_pos hf])
              have t2 : (lw.toList == [102, 97, 108, 115, 101]) = true := by rw [hf, Lib.toList_data]; rfl
              clear hf ht
              go_wp2_with fail
              go_ret2
              exact ⟨_, by rw [HE3.out]; rfl, (fun g hg => by rw [HE3.out] at hg; exact Option.some.inj hg), HB2.out⟩
            · have HE3 := Lib.hid (show formS x s = none by rw [HE2.out, if_neg ht, if_neg hf])
              have t2 : (lw.toList == [102, 97, 108, 115, 101]) = false := by
                rw [Lib.toList_data]
                exact beq_false_of_ne (fun k => hf (by rw [← Lib.mk_data lw, k]; rfl))
              go_wp2_with fail
              go_ret2
              exact ⟨_, by rw [HE3.out]; rfl, (fun g hg => by rw [HE3.out] at hg; cases hg), HB2.out⟩
set_option maxHeartbeats 8000000 in
theorem rnormal7_s (v : Value) (ts : List Ty) (cs : List Cl) (n s : ByteArray) (w : World) (h : SchV w v ts cs) (hn : n.size ≤ 1000000000) (hs : s.size ≤ 1000000) :
    Calls Tryz.prog 25 #[v, .string n, .string s] w fun e w' => e = .returned (.tuple #[.string (nrmV (soundT ts cs) n s), .int .i64 (nrmE (soundT ts cs) n s)]) ∧ Below w.heap.size w w' := by
  have h' := h
  obtain ⟨ao, k, cap, bo, m, dap, rfl, _⟩ := h'
  have hb0 : Below w.heap.size w (w.alloc (.cells #[.slice ao k cap, .slice bo m dap] 25)) := (Below.refl _ _).alloc (Nat.le_refl _) _
  have HB0 := Lib.hid hb0
  have HC := Lib.hid (type7_s _ ts cs n _ (h.below hb0) hn)
  clear h hb0
  go_enter Tryz.func25, Tryz.ntmps25
  go_wp2_with fail
  refine HC.out.mono ?_
  rintro e w1 ⟨rfl, hb⟩
  have hsz1 : w.heap.size < w1.heap.size := by have := hb.size; simp at this; omega
  have HB1 := Lib.hid (HB0.out.trans (hb.mono (by simp)))
  clear hb HC HB0
  unfold tyV
  cases ht : tyOf (soundT ts cs) n with
  | none =>
    have HE := Lib.hid (show nrmV (soundT ts cs) n s = ⟨#[]⟩ ∧ nrmE (soundT ts cs) n s = 6 by unfold nrmV nrmE; rw [ht]; exact ⟨rfl, rfl⟩)
    clear ht
    dsimp only [Option.getD, Option.isSome, zeroTy]
    go_wp2_with fail
    go_ret2
    exact ⟨by rw [HE.out.1, HE.out.2]; rfl, HB1.out.alloc (by omega) _⟩
  | some t =>
    have HE := Lib.hid (show nrmV (soundT ts cs) n s = (normS t.syn s).getD ⟨#[]⟩ ∧ nrmE (soundT ts cs) n s = normE t.syn s by unfold nrmV nrmE; rw [ht]; exact ⟨rfl, rfl⟩)
    clear ht
    dsimp only [Option.getD, Option.isSome]
    have hal := (Below.refl w1.heap.size w1).alloc (Nat.le_refl _) (.cells #[.string t.name, .int .i64 t.syn, .bool t.single] 32)
    have k0 : (w1.alloc (.cells #[.string t.name, .int .i64 t.syn, .bool t.single] 32)).cell? ⟨w1.heap.size, 1, none⟩ = some (.int .i64 t.syn) := by go_simp
    have HAL := Lib.hid (HB1.out.trans (hal.mono (Nat.le_of_lt hsz1)))
    have HN := Lib.hid (show normS t.syn s = (formS t.syn s).bind fun f => if cleanB s = true ∧ cleanB f = true then some f else none from rfl)
    have HFm := Lib.hid (fun f (h : formS t.syn s = some f) => formS_small hs h)
    obtain ⟨c1, hc1⟩ : ∃ b, cleanB s = b := ⟨_, rfl⟩
    have HC1 := Lib.hid hc1
    clear hal hc1
    go_wp2_with fail
    refine (rClean_s s _ (by omega)).mono ?_
    rintro e w2 ⟨rfl, rfl⟩
    rw [HC1.out]
    cases c1
    · have HE2 := Lib.hid (show normS t.syn s = none by rw [HN.out, HC1.out]; cases formS t.syn s <;> simp)
      go_wp2_with fail
      go_ret2
      exact ⟨by rw [HE.out.1, HE.out.2]; unfold normE; rw [HE2.out]; rfl, HAL.out⟩
    · go_wp2_with fail
      refine (rform_s t.syn s _ hs).mono ?_
      rintro e w2 ⟨f, rfl, hg, hb⟩
      have HB2 := Lib.hid (HAL.out.trans (hb.mono HAL.out.size)); clear hb k0
      cases hq : formS t.syn s with
      | none =>
        have HE2 := Lib.hid (show normS t.syn s = none by rw [HN.out, hq]; rfl)
        clear hg hq
        go_wp2_with fail
        go_ret2
        exact ⟨by rw [HE.out.1, HE.out.2]; unfold normE; rw [HE2.out]; rfl, HB2.out⟩
      | some g =>
        obtain rfl := hg g hq
        have hfs := HFm.out f hq
        obtain ⟨c2, hc2⟩ : ∃ b, cleanB f = b := ⟨_, rfl⟩
        have HC2 := Lib.hid hc2
        have HE2 := Lib.hid (show normS t.syn s = if c2 = true then some f else none by rw [HN.out, hq]; show (if cleanB s = true ∧ cleanB f = true then some f else none) = _; rw [HC1.out, hc2]; simp)
        clear hc2 hg hq
        go_wp2_with fail
        refine (rClean_s f _ (by omega)).mono ?_
        rintro e w3 ⟨rfl, rfl⟩
        rw [HC2.out]
        cases c2
        · have HE3 := Lib.hid (show normS t.syn s = none from HE2.out.trans (by simp))
          go_wp2_with fail
          go_ret2
          exact ⟨by rw [HE.out.1, HE.out.2]; unfold normE; rw [HE3.out]; rfl, HB2.out⟩
        · have HE3 := Lib.hid (show normS t.syn s = some f from HE2.out.trans (by simp))
          go_wp2_with fail
          go_ret2
          exact ⟨by rw [HE.out.1, HE.out.2]; unfold normE; rw [HE3.out]; rfl, HB2.out⟩
end Go.Proofs.YtclfjdnemafmeaaGreatDoor
end
