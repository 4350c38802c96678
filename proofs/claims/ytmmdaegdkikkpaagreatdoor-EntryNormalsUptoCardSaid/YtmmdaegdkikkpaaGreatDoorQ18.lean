/-
  Texts of the schema layer and of those beneath it, joined: SchNmR, SchChR, SchTyR. Conditions stand at each contract.
-/
import Derived.Test.YtmmdaegdkikkpaaGreatDoorQ17
set_option linter.unusedVariables false
set_option linter.unusedSimpArgs false
set_option linter.unnecessarySimpa false

section
set_option maxRecDepth 100000
namespace Go.Proofs.YtmmdaegdkikkpaaGreatDoor
open Go.RowKit Go.PlainAid
theorem digB_zero : digB 48 = true := by decide
theorem rep_dig (z : Nat) : (List.replicate z (48 : UInt8)).all digB = true := by
 rw [List.all_eq_true]; intro x hx; rw [List.eq_of_mem_replicate hx]; exact digB_zero
theorem valA_zeros : ∀ (z : Nat) (u : List UInt8), valA 0 (List.replicate z 48 ++ u) = valA 0 u
 | 0, _ => rfl
 | z + 1, u => by
  rw [List.replicate_succ, List.cons_append, valA_cons]
  exact valA_zeros z u
theorem mag_all_val {l : List UInt8} (h : digS l = true) : Lib.parseMag l = if valD l < 18446744073709551616 then .ok (valD l) else .range := by
 unfold digS at h
 rw [Bool.and_eq_true] at h
 cases l with
 | nil => simp at h
 | cons c r =>
  unfold Lib.parseMag
  rw [if_neg (by simp)]
  exact parse_val _ 0 (by decide) h.2
theorem digS_app {z : Nat} {u : List UInt8} (hu : u ≠ []) : digS (List.replicate z 48 ++ u) = digS u := by
 unfold digS
 rw [List.all_append, rep_dig, Bool.true_and]
 cases u with
 | nil => exact absurd rfl hu
 | cons c r => cases z <;> rfl
structure Num (s u : List UInt8) (mn : Bool) (t : List UInt8) : Prop where
 parts : s = if mn then 45 :: t else t
 plain : mn = false → t.head? ≠ some 45
 zeros : ∃ z, t = List.replicate z 48 ++ u ∧ (0 < z → u ≠ [])
theorem Num.strip {s u t : List UInt8} {mn : Bool} (h : Num s u mn t) : stripL s = t := by
 rw [h.parts]
 cases mn with
 | true => exact strip_minus t
 | false =>
  have hp := h.plain rfl
  show stripL t = t
  cases t with
  | nil => rfl
  | cons c r => exact strip_plain c r (fun e => hp (by rw [e]; rfl))
theorem num_none {s : ByteArray} {u t : List UInt8} {mn : Bool} (h : Num s.data.toList u mn t) (hu : digS u = false) : numS s = none := by
 unfold numS
 rw [h.strip]
 obtain ⟨z, e, hz⟩ := h.zeros
 by_cases h0 : u = []
 ·have : z = 0 := by
   rcases Nat.eq_zero_or_pos z with k | k
   ·exact k
   ·exact absurd h0 (hz k)
  rw [e, this, h0]; rfl
 ·rw [e, digS_app h0, hu]; rfl
theorem digS_head {c : UInt8} {r : List UInt8} (h : digB c = false) : digS (c :: r) = false := by unfold digS; rw [List.all_cons, h]; simp
theorem readI_neg_bad {u : List UInt8} (h : digsB u = false) : readI (45 :: u) = (0, 4) := readI_bad (by rw [dec_minus, h])
theorem num_read {s : ByteArray} {u t : List UInt8} {mn : Bool} (h : Num s.data.toList u mn t) (c : UInt8) (r : List UInt8) (hu : u = c :: r) (hd : digB c = true) (hx : c ≠ 48 ∨ r = []) :
  readI (if mn = true ∧ u ≠ [48] then 45 :: u else u) = ((numS s).getD 0, (readI (if mn = true ∧ u ≠ [48] then 45 :: u else u)).2) ∧ ((readI (if mn = true ∧ u ≠ [48] then 45 :: u else u)).2 == 0) = (numS s).isSome := by
 obtain ⟨z, e, hz⟩ := h.zeros
 have hne : u ≠ [] := by rw [hu]; simp
 have hst := h.strip
 have hdg := digB_bounds hd
 by_cases hall : digS u = true
 ·have hdt : digS t = true := by rw [e, digS_app hne]; exact hall
  have hmag := mag_all_val hdt
  have hval : valD t = valD u := by unfold valD; rw [e]; exact valA_zeros z u
  rw [hval] at hmag
  have hN : numS s = (match Lib.atoiAll s.data.toList with | .ok v => some v | _ => none) := by unfold numS; rw [hst, if_pos hdt]; rfl
  have hplain : mn = false → Lib.atoiAll s.data.toList = Lib.signless (Lib.parseMag t) := fun hm => by
   have hp := h.parts
   rw [hm] at hp
   have hp : s.data.toList = t := hp
   rw [hp]
   cases ht : t with
   | nil => rw [ht] at hdt; cases hdt
   | cons a b =>
    have ha : digB a = true := by
     rw [ht] at hdt
     unfold digS at hdt
     simp only [Bool.and_eq_true, List.all_cons] at hdt
     exact hdt.2.1
    have hb := digB_bounds ha
    exact Lib.atoiAll_plain a b (by omega) (by omega)
  have hneg : mn = true → Lib.atoiAll s.data.toList = Lib.signed (Lib.parseMag t) := fun hm => by
   have hp := h.parts
   rw [hm] at hp
   have hp : s.data.toList = 45 :: t := hp
   rw [hp]
   exact Lib.atoiAll_minus t
  by_cases h48 : u = [48]
  ·rw [if_neg (fun k => k.2 h48)]
   have h0 : valD u = 0 := by rw [h48]; rfl
   rw [h0, if_pos (by decide)] at hmag
   have ha : Lib.atoiAll s.data.toList = .ok 0 := by
    cases mn with
    | true => rw [hneg rfl, hmag, signed_small (by decide)]; rfl
    | false => rw [hplain rfl, hmag, signless_small (by decide)]; rfl
   rw [hN, ha, h48, readI_zero]
   exact ⟨rfl, rfl⟩
  ·have hds : digsB u = true := by
    have hc : c ≠ 48 := by
     rcases hx with k | k
     ·exact k
     ·intro k2; exact h48 (by rw [hu, k2, k])
    unfold digS at hall
    rw [Bool.and_eq_true] at hall
    rw [hu]
    rw [hu] at hall
    show (!(c == 48) && _) = true
    rw [hall.2]
    simpa using hc
   cases mn with
   | true =>
    rw [if_pos ⟨rfl, h48⟩, readI_minus hds, hN, hneg rfl, hmag]
    by_cases hv : valD u ≤ 9223372036854775808
    ·rw [if_pos hv, if_pos (by omega), signed_small hv]
     exact ⟨rfl, rfl⟩
    ·rw [if_neg hv]
     by_cases hv2 : valD u < 18446744073709551616
     ·rw [if_pos hv2, signed_big hv]
      exact ⟨rfl, rfl⟩
     ·rw [if_neg hv2]
      exact ⟨rfl, rfl⟩
   | false =>
    rw [if_neg (fun k => by cases k.1), readI_plain hds, hN, hplain rfl, hmag]
    by_cases hv : valD u < 9223372036854775808
    ·rw [if_pos hv, if_pos (by omega), signless_small hv]
     exact ⟨rfl, rfl⟩
    ·rw [if_neg hv]
     by_cases hv2 : valD u < 18446744073709551616
     ·rw [if_pos hv2, signless_big hv]
      exact ⟨rfl, rfl⟩
     ·rw [if_neg hv2]
      exact ⟨rfl, rfl⟩
 ·have hf : digS u = false := by simpa using hall
  have hN := num_none h hf
  have h48 : u ≠ [48] := fun k => by rw [k] at hf; revert hf; decide
  have hds : digsB u = false := by
   cases hd2 : digsB u with
   | false => rfl
   | true => rw [digs_S hd2] at hf; cases hf
  rw [hN]
  cases mn with
  | true => rw [if_pos ⟨rfl, h48⟩, readI_neg_bad hds]; exact ⟨rfl, rfl⟩
  | false =>
   rw [if_neg (fun k => by cases k.1), readI_bad (l := u) (by
    unfold decB
    have h1 : c ≠ 45 := fun k => by rw [k] at hdg; have : (45 : UInt8).toNat = 45 := rfl; omega
    rw [hu, strip_plain c r h1, ← hu, hds, Bool.or_false]
    exact decide_eq_false h48)]
   exact ⟨rfl, rfl⟩
theorem Num.step {s t : List UInt8} {u : List UInt8} {mn : Bool} (h : Num s (48 :: u) mn t) (hu : u ≠ []) : Num s u mn t :=
 ⟨h.parts, h.plain, by
  obtain ⟨z, e, _⟩ := h.zeros
  refine ⟨z + 1, ?_, fun _ => hu⟩
  rw [e, List.replicate_succ', List.append_assoc]; rfl⟩
theorem chr_list {u : ByteArray} (h : 0 < u.size) : u.data.toList = chr u 0 :: (u.extract 1 u.size).data.toList := by
 have := drop_chr u 0 h
 rw [List.drop_zero] at this
 rw [this, Lib.extract_from]
def strN0 : Value → Nat
 | .string s => s.size
 | _ => 0
set_option maxHeartbeats 8000000 in
theorem rnumber_s (s : ByteArray) (w : World) (hs : s.size ≤ 1100000) :
  Calls Tryz.prog 261 #[.string s] w fun e w' => e = .returned (.tuple #[.int .i64 ((numS s).getD 0), .bool (numS s).isSome]) ∧ w = w' := by
 obtain ⟨nn, hnn⟩ : ∃ x, (numS s).getD 0 = x := ⟨_, rfl⟩
 obtain ⟨ok, hok⟩ : ∃ x, (numS s).isSome = x := ⟨_, rfl⟩
 rw [hnn, hok]
 have HNk := Lib.hid (And.intro hnn hok)
 clear hnn hok
 have hbs := get_bt s
 have h00 := bt_nonneg s 0
 by_cases hp : 0 < s.size ∧ chr s 0 = 45
 ·obtain ⟨hpos, h2⟩ := hp
  have e0 : (0 : Int) < (s.size : Int) := by omega
  have e0' : decide ((0 : Int) < (s.size : Int)) = true := decide_eq_true e0
  have h3 : (bt s 0 == 45) = true := by rw [bt_chr, h2]; rfl
  obtain ⟨t, ht⟩ : ∃ t, t = s.extract 1 s.size := ⟨_, rfl⟩
  have hdt : s.data.toList = 45 :: t.data.toList := by rw [chr_list hpos, h2, ht]
  have hts : t.size ≤ 1100000 := by have := congrArg List.length hdt; rw [List.length_cons, ← Lib.size_eq, ← Lib.size_eq] at this; omega
  have HNm := Lib.hid (show Num s.data.toList t.data.toList true t.data.toList from ⟨hdt, (fun h => by cases h), ⟨0, rfl, fun h => absurd h (Nat.lt_irrefl _)⟩⟩)
  clear hdt h2
  go_enter Tryz.func261, Tryz.ntmps261
  go_wp2_with fail
  rw [← ht]
  clear ht h3 e0 e0' hbs h00
  go_loopw [0] (fun s0 wr => ∃ u : ByteArray, s0 = .string u ∧ u.size ≤ 1100000 ∧ Hid (Num s.data.toList u.data.toList true t.data.toList) ∧ w = wr) (fun s0 _ => strN0 s0)
  case atStart => exact ⟨t, rfl, hts, HNm, rfl⟩
  case round =>
   obtain ⟨u, rfl, hus, HU, rfl⟩ := hrel
   have hbu := get_bt u
   have h00 := bt_nonneg u 0
   have HCh := Lib.hid (bt_chr u 0)
   by_cases h1 : 1 < u.size
   ·have e1 : (1 : Int) < (u.size : Int) := by omega
    have e1' : decide ((1 : Int) < (u.size : Int)) = true := decide_eq_true e1
    have e2 : (0 : Int) < (u.size : Int) := by omega
    by_cases h48 : bt u 0 = 48
    ·have e3 : (bt u 0 == 48) = true := by rw [h48]; rfl
     obtain ⟨u', hu'⟩ : ∃ x, x = u.extract 1 u.size := ⟨_, rfl⟩
     have HL := Lib.hid (show u.data.toList = 48 :: u'.data.toList by
      rw [chr_list (by omega), hu']
      congr 1
      have := HCh.out
      rw [h48] at this
      have h4 : (48 : UInt8).toNat = 48 := rfl
      exact UInt8.toNat_inj.1 (by omega))
     have hsz : u'.size + 1 = u.size := by rw [Lib.size_eq u, HL.out, List.length_cons, ← Lib.size_eq]
     have HU2 := Lib.hid (show Num s.data.toList u'.data.toList true t.data.toList by
      have := HU.out
      rw [HL.out] at this
      exact this.step (fun k => by rw [Lib.size_eq u', k] at hsz; simp at hsz; omega))
     go_wp2_with fail
     rw [← hu']
     go_roundw
     case rel => exact ⟨u', rfl, by omega, HU2, by first | exact rfl | trivial⟩
     case measure => show u'.size < u.size; omega
    ·have e3 : (bt u 0 == 48) = false := by simpa using h48
     by_cases z0 : u.size = 0
     ·have hz1 : u.toList.isEmpty = true := by rw [str_none]; exact decide_eq_true z0
      have hz2 : (u.toList == []) = true := by simpa using hz1
      have HN := Lib.hid (num_none HU.out (by rw [show u.data.toList = [] from List.length_eq_zero_iff.1 (by rw [← Lib.size_eq]; exact z0)]; rfl))
      go_wp2_with fail
      go_ret2
      exact ⟨by rw [← HNk.out.1, ← HNk.out.2, HN.out]; rfl, rfl⟩
     ·have hz1 : u.toList.isEmpty = false := by rw [str_none]; exact decide_eq_false z0
      have hz2 : (u.toList == []) = false := by simpa using hz1
      have ex : (0 : Int) < (u.size : Int) := by omega
      have HL := Lib.hid (chr_list (u := u) (by omega))
      by_cases l48 : bt u 0 < 48
      ·have e5 : decide (bt u 0 < 48) = true := decide_eq_true l48
       have HN := Lib.hid (num_none HU.out (by rw [HL.out]; exact digS_head (by unfold digB; have := HCh.out; rw [decide_eq_false (by omega)]; rfl)))
       go_wp2_with fail
       go_ret2
       exact ⟨by rw [← HNk.out.1, ← HNk.out.2, HN.out]; rfl, rfl⟩
      ·have e5 : decide (bt u 0 < 48) = false := decide_eq_false l48
       by_cases l57 : 57 < bt u 0
       ·have e6 : decide (57 < bt u 0) = true := decide_eq_true l57
        have HN := Lib.hid (num_none HU.out (by rw [HL.out]; exact digS_head (by unfold digB; have := HCh.out; rw [decide_eq_false (show ¬ (chr u 0).toNat ≤ 57 by omega), Bool.and_false])))
        go_wp2_with fail
        go_ret2
        exact ⟨by rw [← HNk.out.1, ← HNk.out.2, HN.out]; rfl, rfl⟩
       ·have e6 : decide (57 < bt u 0) = false := decide_eq_false l57
        have HR := Lib.hid (num_read HU.out _ _ HL.out (by unfold digB; have := HCh.out; rw [decide_eq_true (by omega), decide_eq_true (by omega)]; rfl) (by left; intro k; have := HCh.out; rw [k] at this; have h4 : (48 : UInt8).toNat = 48 := rfl; omega))
        by_cases hz : u = ⟨#[48]⟩
        ·have e7 : (u.toList == [48]) = true := by rw [hz, Lib.toList_data]; rfl
         have e8 : (u.toList != [48]) = false := by rw [hz, Lib.toList_data]; rfl
         have HR2 := Lib.hid (show readI u.data.toList = ((numS s).getD 0, (readI u.data.toList).2) ∧ ((readI u.data.toList).2 == 0) = (numS s).isSome by
          have := HR.out
          rwa [if_neg (fun k => k.2 (by rw [hz]))] at this)
         have HCt := Lib.hid (rreadInt_s u w (by omega))
         obtain ⟨e2, he2⟩ : ∃ x, (readI u.data.toList).2 = x := ⟨_, rfl⟩
         have he3 : (readI u.data.toList).1 = nn := (congrArg Prod.fst HR2.out.1).trans HNk.out.1
         have he4 : (e2 == 0) = ok := by rw [← he2]; exact HR2.out.2.trans HNk.out.2
         rw [he2, he3] at HCt
         clear he2 he3
         clear hz
         go_wp2_with fail
         refine HCt.out.mono ?_
         rintro e w' ⟨rfl, rfl⟩
         go_wp2_with fail
         go_ret2
         exact ⟨rfl, rfl⟩
        ·have hz' : u.data.toList ≠ [48] := fun k => hz (by rw [← Lib.mk_data u, k])
         have e7 : (u.toList == [48]) = false := by rw [Lib.toList_data]; simpa using hz'
         have e8 : (u.toList != [48]) = true := by rw [Lib.toList_data]; simpa using hz'
         obtain ⟨q, hq⟩ : ∃ x : ByteArray, x = ⟨#[45]⟩ ++ u := ⟨_, rfl⟩
         have hqd : q.data.toList = 45 :: u.data.toList := by rw [hq, ByteArray.data_append, Array.toList_append]; rfl
         have hqs : q.size = u.size + 1 := by rw [Lib.size_eq, hqd, List.length_cons, ← Lib.size_eq]
         have HR2 := Lib.hid (show readI q.data.toList = ((numS s).getD 0, (readI q.data.toList).2) ∧ ((readI q.data.toList).2 == 0) = (numS s).isSome by
          have := HR.out
          rw [hqd]
          rwa [if_pos ⟨rfl, hz'⟩] at this)
         have HCt := Lib.hid (rreadInt_s q w (by omega))
         obtain ⟨e2, he2⟩ : ∃ x, (readI q.data.toList).2 = x := ⟨_, rfl⟩
         have he3 : (readI q.data.toList).1 = nn := (congrArg Prod.fst HR2.out.1).trans HNk.out.1
         have he4 : (e2 == 0) = ok := by rw [← he2]; exact HR2.out.2.trans HNk.out.2
         rw [he2, he3] at HCt
         clear he2 he3
         clear hz hz' hqd
         go_wp2_with fail
         rw [← hq]
         refine HCt.out.mono ?_
         rintro e w' ⟨rfl, rfl⟩
         go_wp2_with fail
         go_ret2
         exact ⟨rfl, rfl⟩
   ·have e1 : ¬ (1 : Int) < (u.size : Int) := by omega
    have e1' : decide ((1 : Int) < (u.size : Int)) = false := decide_eq_false e1
    by_cases z0 : u.size = 0
    ·have hz1 : u.toList.isEmpty = true := by rw [str_none]; exact decide_eq_true z0
     have hz2 : (u.toList == []) = true := by simpa using hz1
     have HN := Lib.hid (num_none HU.out (by rw [show u.data.toList = [] from List.length_eq_zero_iff.1 (by rw [← Lib.size_eq]; exact z0)]; rfl))
     go_wp2_with fail
     go_ret2
     exact ⟨by rw [← HNk.out.1, ← HNk.out.2, HN.out]; rfl, rfl⟩
    ·have hz1 : u.toList.isEmpty = false := by rw [str_none]; exact decide_eq_false z0
     have hz2 : (u.toList == []) = false := by simpa using hz1
     have ex : (0 : Int) < (u.size : Int) := by omega
     have HL := Lib.hid (chr_list (u := u) (by omega))
     by_cases l48 : bt u 0 < 48
     ·have e5 : decide (bt u 0 < 48) = true := decide_eq_true l48
      have HN := Lib.hid (num_none HU.out (by rw [HL.out]; exact digS_head (by unfold digB; have := HCh.out; rw [decide_eq_false (by omega)]; rfl)))
      go_wp2_with fail
      go_ret2
      exact ⟨by rw [← HNk.out.1, ← HNk.out.2, HN.out]; rfl, rfl⟩
     ·have e5 : decide (bt u 0 < 48) = false := decide_eq_false l48
      by_cases l57 : 57 < bt u 0
      ·have e6 : decide (57 < bt u 0) = true := decide_eq_true l57
       have HN := Lib.hid (num_none HU.out (by rw [HL.out]; exact digS_head (by unfold digB; have := HCh.out; rw [decide_eq_false (show ¬ (chr u 0).toNat ≤ 57 by omega), Bool.and_false])))
       go_wp2_with fail
       go_ret2
       exact ⟨by rw [← HNk.out.1, ← HNk.out.2, HN.out]; rfl, rfl⟩
      ·have e6 : decide (57 < bt u 0) = false := decide_eq_false l57
       have HR := Lib.hid (num_read HU.out _ _ HL.out (by unfold digB; have := HCh.out; rw [decide_eq_true (by omega), decide_eq_true (by omega)]; rfl) (by right; refine List.length_eq_zero_iff.1 ?_; have := congrArg List.length HL.out; rw [List.length_cons, ← Lib.size_eq] at this; omega))
       by_cases hz : u = ⟨#[48]⟩
       ·have e7 : (u.toList == [48]) = true := by rw [hz, Lib.toList_data]; rfl
        have e8 : (u.toList != [48]) = false := by rw [hz, Lib.toList_data]; rfl
        have HR2 := Lib.hid (show readI u.data.toList = ((numS s).getD 0, (readI u.data.toList).2) ∧ ((readI u.data.toList).2 == 0) = (numS s).isSome by
         have := HR.out
         rwa [if_neg (fun k => k.2 (by rw [hz]))] at this)
        have HCt := Lib.hid (rreadInt_s u w (by omega))
        obtain ⟨e2, he2⟩ : ∃ x, (readI u.data.toList).2 = x := ⟨_, rfl⟩
        have he3 : (readI u.data.toList).1 = nn := (congrArg Prod.fst HR2.out.1).trans HNk.out.1
        have he4 : (e2 == 0) = ok := by rw [← he2]; exact HR2.out.2.trans HNk.out.2
        rw [he2, he3] at HCt
        clear he2 he3
        clear hz
        go_wp2_with fail
        refine HCt.out.mono ?_
        rintro e w' ⟨rfl, rfl⟩
        go_wp2_with fail
        go_ret2
        exact ⟨rfl, rfl⟩
       ·have hz' : u.data.toList ≠ [48] := fun k => hz (by rw [← Lib.mk_data u, k])
        have e7 : (u.toList == [48]) = false := by rw [Lib.toList_data]; simpa using hz'
        have e8 : (u.toList != [48]) = true := by rw [Lib.toList_data]; simpa using hz'
        obtain ⟨q, hq⟩ : ∃ x : ByteArray, x = ⟨#[45]⟩ ++ u := ⟨_, rfl⟩
        have hqd : q.data.toList = 45 :: u.data.toList := by rw [hq, ByteArray.data_append, Array.toList_append]; rfl
        have hqs : q.size = u.size + 1 := by rw [Lib.size_eq, hqd, List.length_cons, ← Lib.size_eq]
        have HR2 := Lib.hid (show readI q.data.toList = ((numS s).getD 0, (readI q.data.toList).2) ∧ ((readI q.data.toList).2 == 0) = (numS s).isSome by
         have := HR.out
         rw [hqd]
         rwa [if_pos ⟨rfl, hz'⟩] at this)
        have HCt := Lib.hid (rreadInt_s q w (by omega))
        obtain ⟨e2, he2⟩ : ∃ x, (readI q.data.toList).2 = x := ⟨_, rfl⟩
        have he3 : (readI q.data.toList).1 = nn := (congrArg Prod.fst HR2.out.1).trans HNk.out.1
        have he4 : (e2 == 0) = ok := by rw [← he2]; exact HR2.out.2.trans HNk.out.2
        rw [he2, he3] at HCt
        clear he2 he3
        clear hz hz' hqd
        go_wp2_with fail
        rw [← hq]
        refine HCt.out.mono ?_
        rintro e w' ⟨rfl, rfl⟩
        go_wp2_with fail
        go_ret2
        exact ⟨rfl, rfl⟩
 ·have HP := Lib.hid hp
  clear hp
  obtain ⟨t, ht⟩ : ∃ t, t = s := ⟨_, rfl⟩
  have HNm := Lib.hid (show Num s.data.toList t.data.toList false t.data.toList by
   rw [ht]
   refine ⟨rfl, fun _ h => HP.out ?_, ⟨0, rfl, fun h => absurd h (Nat.lt_irrefl _)⟩⟩
   have hpos : 0 < s.size := by
    rcases Nat.eq_zero_or_pos s.size with k | k
    ·rw [show s.data.toList = [] from List.length_eq_zero_iff.1 (by rw [← Lib.size_eq]; exact k)] at h; cases h
    ·exact k
   refine ⟨hpos, ?_⟩
   rw [chr_list hpos] at h
   exact Option.some.inj h)
  have hts : t.size ≤ 1100000 := by rw [ht]; exact hs
  have hfalse : ∀ P : Prop, ((0 : Int) < (s.size : Int) → bt s 0 = 45 → P) := fun P h1 h2 => absurd ⟨by omega, by rw [bt_chr] at h2; have h4 : (45 : UInt8).toNat = 45 := rfl; exact UInt8.toNat_inj.1 (by omega)⟩ HP.out
  have HF := Lib.hid hfalse
  clear hfalse
  by_cases hpos : 0 < s.size
  ·have e0 : (0 : Int) < (s.size : Int) := by omega
   have e0' : decide ((0 : Int) < (s.size : Int)) = true := decide_eq_true e0
   have h3 : (bt s 0 == 45) = false := by
    cases h : (bt s 0 == 45) with
    | false => rfl
    | true => exact HF.out _ e0 (by simpa using h)
   go_enter Tryz.func261, Tryz.ntmps261
   go_wp2_with fail
   clear h3 e0 e0' hbs h00
   subst ht
   go_loopw [0] (fun s0 wr => ∃ u : ByteArray, s0 = .string u ∧ u.size ≤ 1100000 ∧ Hid (Num t.data.toList u.data.toList false t.data.toList) ∧ w = wr) (fun s0 _ => strN0 s0)
   case atStart => exact ⟨t, rfl, hts, HNm, rfl⟩
   case round =>
    obtain ⟨u, rfl, hus, HU, rfl⟩ := hrel
    have hbu := get_bt u
    have h00 := bt_nonneg u 0
    have HCh := Lib.hid (bt_chr u 0)
    by_cases h1 : 1 < u.size
    ·have e1 : (1 : Int) < (u.size : Int) := by omega
     have e1' : decide ((1 : Int) < (u.size : Int)) = true := decide_eq_true e1
     have e2 : (0 : Int) < (u.size : Int) := by omega
     by_cases h48 : bt u 0 = 48
     ·have e3 : (bt u 0 == 48) = true := by rw [h48]; rfl
      obtain ⟨u', hu'⟩ : ∃ x, x = u.extract 1 u.size := ⟨_, rfl⟩
      have HL := Lib.hid (show u.data.toList = 48 :: u'.data.toList by
       rw [chr_list (by omega), hu']
       congr 1
       have := HCh.out
       rw [h48] at this
       have h4 : (48 : UInt8).toNat = 48 := rfl
       exact UInt8.toNat_inj.1 (by omega))
      have hsz : u'.size + 1 = u.size := by rw [Lib.size_eq u, HL.out, List.length_cons, ← Lib.size_eq]
      have HU2 := Lib.hid (show Num t.data.toList u'.data.toList false t.data.toList by
       have := HU.out
       rw [HL.out] at this
       exact this.step (fun k => by rw [Lib.size_eq u', k] at hsz; simp at hsz; omega))
      go_wp2_with fail
      rw [← hu']
      go_roundw
      case rel => exact ⟨u', rfl, by omega, HU2, by first | exact rfl | trivial⟩
      case measure => show u'.size < u.size; omega
     ·have e3 : (bt u 0 == 48) = false := by simpa using h48
      by_cases z0 : u.size = 0
      ·have hz1 : u.toList.isEmpty = true := by rw [str_none]; exact decide_eq_true z0
       have hz2 : (u.toList == []) = true := by simpa using hz1
       have HN := Lib.hid (num_none HU.out (by rw [show u.data.toList = [] from List.length_eq_zero_iff.1 (by rw [← Lib.size_eq]; exact z0)]; rfl))
       go_wp2_with fail
       go_ret2
       exact ⟨by rw [← HNk.out.1, ← HNk.out.2, HN.out]; rfl, rfl⟩
      ·have hz1 : u.toList.isEmpty = false := by rw [str_none]; exact decide_eq_false z0
       have hz2 : (u.toList == []) = false := by simpa using hz1
       have ex : (0 : Int) < (u.size : Int) := by omega
       have HL := Lib.hid (chr_list (u := u) (by omega))
       by_cases l48 : bt u 0 < 48
       ·have e5 : decide (bt u 0 < 48) = true := decide_eq_true l48
        have HN := Lib.hid (num_none HU.out (by rw [HL.out]; exact digS_head (by unfold digB; have := HCh.out; rw [decide_eq_false (by omega)]; rfl)))
        go_wp2_with fail
        go_ret2
        exact ⟨by rw [← HNk.out.1, ← HNk.out.2, HN.out]; rfl, rfl⟩
       ·have e5 : decide (bt u 0 < 48) = false := decide_eq_false l48
        by_cases l57 : 57 < bt u 0
        ·have e6 : decide (57 < bt u 0) = true := decide_eq_true l57
         have HN := Lib.hid (num_none HU.out (by rw [HL.out]; exact digS_head (by unfold digB; have := HCh.out; rw [decide_eq_false (show ¬ (chr u 0).toNat ≤ 57 by omega), Bool.and_false])))
         go_wp2_with fail
         go_ret2
         exact ⟨by rw [← HNk.out.1, ← HNk.out.2, HN.out]; rfl, rfl⟩
        ·have e6 : decide (57 < bt u 0) = false := decide_eq_false l57
         have HR := Lib.hid (num_read HU.out _ _ HL.out (by unfold digB; have := HCh.out; rw [decide_eq_true (by omega), decide_eq_true (by omega)]; rfl) (by left; intro k; have := HCh.out; rw [k] at this; have h4 : (48 : UInt8).toNat = 48 := rfl; omega))
         have HR2 := Lib.hid (show readI u.data.toList = ((numS t).getD 0, (readI u.data.toList).2) ∧ ((readI u.data.toList).2 == 0) = (numS t).isSome by
          have := HR.out
          rwa [if_neg (fun k => by cases k.1)] at this)
         have HCt := Lib.hid (rreadInt_s u w (by omega))
         obtain ⟨e2, he2⟩ : ∃ x, (readI u.data.toList).2 = x := ⟨_, rfl⟩
         have he3 : (readI u.data.toList).1 = nn := (congrArg Prod.fst HR2.out.1).trans HNk.out.1
         have he4 : (e2 == 0) = ok := by rw [← he2]; exact HR2.out.2.trans HNk.out.2
         rw [he2, he3] at HCt
         clear he2 he3
         go_wp2_with fail
         refine HCt.out.mono ?_
         rintro e w' ⟨rfl, rfl⟩
         go_wp2_with fail
         go_ret2
         exact ⟨rfl, rfl⟩
    ·have e1 : ¬ (1 : Int) < (u.size : Int) := by omega
     have e1' : decide ((1 : Int) < (u.size : Int)) = false := decide_eq_false e1
     by_cases z0 : u.size = 0
     ·have hz1 : u.toList.isEmpty = true := by rw [str_none]; exact decide_eq_true z0
      have hz2 : (u.toList == []) = true := by simpa using hz1
      have HN := Lib.hid (num_none HU.out (by rw [show u.data.toList = [] from List.length_eq_zero_iff.1 (by rw [← Lib.size_eq]; exact z0)]; rfl))
      go_wp2_with fail
      go_ret2
      exact ⟨by rw [← HNk.out.1, ← HNk.out.2, HN.out]; rfl, rfl⟩
     ·have hz1 : u.toList.isEmpty = false := by rw [str_none]; exact decide_eq_false z0
      have hz2 : (u.toList == []) = false := by simpa using hz1
      have ex : (0 : Int) < (u.size : Int) := by omega
      have HL := Lib.hid (chr_list (u := u) (by omega))
      by_cases l48 : bt u 0 < 48
      ·have e5 : decide (bt u 0 < 48) = true := decide_eq_true l48
       have HN := Lib.hid (num_none HU.out (by rw [HL.out]; exact digS_head (by unfold digB; have := HCh.out; rw [decide_eq_false (by omega)]; rfl)))
       go_wp2_with fail
       go_ret2
       exact ⟨by rw [← HNk.out.1, ← HNk.out.2, HN.out]; rfl, rfl⟩
      ·have e5 : decide (bt u 0 < 48) = false := decide_eq_false l48
       by_cases l57 : 57 < bt u 0
       ·have e6 : decide (57 < bt u 0) = true := decide_eq_true l57
        have HN := Lib.hid (num_none HU.out (by rw [HL.out]; exact digS_head (by unfold digB; have := HCh.out; rw [decide_eq_false (show ¬ (chr u 0).toNat ≤ 57 by omega), Bool.and_false])))
        go_wp2_with fail
        go_ret2
        exact ⟨by rw [← HNk.out.1, ← HNk.out.2, HN.out]; rfl, rfl⟩
       ·have e6 : decide (57 < bt u 0) = false := decide_eq_false l57
        have HR := Lib.hid (num_read HU.out _ _ HL.out (by unfold digB; have := HCh.out; rw [decide_eq_true (by omega), decide_eq_true (by omega)]; rfl) (by right; refine List.length_eq_zero_iff.1 ?_; have := congrArg List.length HL.out; rw [List.length_cons, ← Lib.size_eq] at this; omega))
        have HR2 := Lib.hid (show readI u.data.toList = ((numS t).getD 0, (readI u.data.toList).2) ∧ ((readI u.data.toList).2 == 0) = (numS t).isSome by
         have := HR.out
         rwa [if_neg (fun k => by cases k.1)] at this)
        have HCt := Lib.hid (rreadInt_s u w (by omega))
        obtain ⟨e2, he2⟩ : ∃ x, (readI u.data.toList).2 = x := ⟨_, rfl⟩
        have he3 : (readI u.data.toList).1 = nn := (congrArg Prod.fst HR2.out.1).trans HNk.out.1
        have he4 : (e2 == 0) = ok := by rw [← he2]; exact HR2.out.2.trans HNk.out.2
        rw [he2, he3] at HCt
        clear he2 he3
        go_wp2_with fail
        refine HCt.out.mono ?_
        rintro e w' ⟨rfl, rfl⟩
        go_wp2_with fail
        go_ret2
        exact ⟨rfl, rfl⟩
  ·have e0 : ¬ (0 : Int) < (s.size : Int) := by omega
   have e0' : decide ((0 : Int) < (s.size : Int)) = false := decide_eq_false e0
   go_enter Tryz.func261, Tryz.ntmps261
   go_wp2_with fail
   clear e0 e0' hbs h00
   subst ht
   go_loopw [0] (fun s0 wr => ∃ u : ByteArray, s0 = .string u ∧ u.size ≤ 1100000 ∧ Hid (Num t.data.toList u.data.toList false t.data.toList) ∧ w = wr) (fun s0 _ => strN0 s0)
   case atStart => exact ⟨t, rfl, hts, HNm, rfl⟩
   case round =>
    obtain ⟨u, rfl, hus, HU, rfl⟩ := hrel
    have hbu := get_bt u
    have h00 := bt_nonneg u 0
    have HCh := Lib.hid (bt_chr u 0)
    by_cases h1 : 1 < u.size
    ·have e1 : (1 : Int) < (u.size : Int) := by omega
     have e1' : decide ((1 : Int) < (u.size : Int)) = true := decide_eq_true e1
     have e2 : (0 : Int) < (u.size : Int) := by omega
     by_cases h48 : bt u 0 = 48
     ·have e3 : (bt u 0 == 48) = true := by rw [h48]; rfl
      obtain ⟨u', hu'⟩ : ∃ x, x = u.extract 1 u.size := ⟨_, rfl⟩
      have HL := Lib.hid (show u.data.toList = 48 :: u'.data.toList by
       rw [chr_list (by omega), hu']
       congr 1
       have := HCh.out
       rw [h48] at this
       have h4 : (48 : UInt8).toNat = 48 := rfl
       exact UInt8.toNat_inj.1 (by omega))
      have hsz : u'.size + 1 = u.size := by rw [Lib.size_eq u, HL.out, List.length_cons, ← Lib.size_eq]
      have HU2 := Lib.hid (show Num t.data.toList u'.data.toList false t.data.toList by
       have := HU.out
       rw [HL.out] at this
       exact this.step (fun k => by rw [Lib.size_eq u', k] at hsz; simp at hsz; omega))
      go_wp2_with fail
      rw [← hu']
      go_roundw
      case rel => exact ⟨u', rfl, by omega, HU2, by first | exact rfl | trivial⟩
      case measure => show u'.size < u.size; omega
     ·have e3 : (bt u 0 == 48) = false := by simpa using h48
      by_cases z0 : u.size = 0
      ·have hz1 : u.toList.isEmpty = true := by rw [str_none]; exact decide_eq_true z0
       have hz2 : (u.toList == []) = true := by simpa using hz1
       have HN := Lib.hid (num_none HU.out (by rw [show u.data.toList = [] from List.length_eq_zero_iff.1 (by rw [← Lib.size_eq]; exact z0)]; rfl))
       go_wp2_with fail
       go_ret2
       exact ⟨by rw [← HNk.out.1, ← HNk.out.2, HN.out]; rfl, rfl⟩
      ·have hz1 : u.toList.isEmpty = false := by rw [str_none]; exact decide_eq_false z0
       have hz2 : (u.toList == []) = false := by simpa using hz1
       have ex : (0 : Int) < (u.size : Int) := by omega
       have HL := Lib.hid (chr_list (u := u) (by omega))
       by_cases l48 : bt u 0 < 48
       ·have e5 : decide (bt u 0 < 48) = true := decide_eq_true l48
        have HN := Lib.hid (num_none HU.out (by rw [HL.out]; exact digS_head (by unfold digB; have := HCh.out; rw [decide_eq_false (by omega)]; rfl)))
        go_wp2_with fail
        go_ret2
        exact ⟨by rw [← HNk.out.1, ← HNk.out.2, HN.out]; rfl, rfl⟩
       ·have e5 : decide (bt u 0 < 48) = false := decide_eq_false l48
        by_cases l57 : 57 < bt u 0
        ·have e6 : decide (57 < bt u 0) = true := decide_eq_true l57
         have HN := Lib.hid (num_none HU.out (by rw [HL.out]; exact digS_head (by unfold digB; have := HCh.out; rw [decide_eq_false (show ¬ (chr u 0).toNat ≤ 57 by omega), Bool.and_false])))
         go_wp2_with fail
         go_ret2
         exact ⟨by rw [← HNk.out.1, ← HNk.out.2, HN.out]; rfl, rfl⟩
        ·have e6 : decide (57 < bt u 0) = false := decide_eq_false l57
         have HR := Lib.hid (num_read HU.out _ _ HL.out (by unfold digB; have := HCh.out; rw [decide_eq_true (by omega), decide_eq_true (by omega)]; rfl) (by left; intro k; have := HCh.out; rw [k] at this; have h4 : (48 : UInt8).toNat = 48 := rfl; omega))
         have HR2 := Lib.hid (show readI u.data.toList = ((numS t).getD 0, (readI u.data.toList).2) ∧ ((readI u.data.toList).2 == 0) = (numS t).isSome by
          have := HR.out
          rwa [if_neg (fun k => by cases k.1)] at this)
         have HCt := Lib.hid (rreadInt_s u w (by omega))
         obtain ⟨e2, he2⟩ : ∃ x, (readI u.data.toList).2 = x := ⟨_, rfl⟩
         have he3 : (readI u.data.toList).1 = nn := (congrArg Prod.fst HR2.out.1).trans HNk.out.1
         have he4 : (e2 == 0) = ok := by rw [← he2]; exact HR2.out.2.trans HNk.out.2
         rw [he2, he3] at HCt
         clear he2 he3
         go_wp2_with fail
         refine HCt.out.mono ?_
         rintro e w' ⟨rfl, rfl⟩
         go_wp2_with fail
         go_ret2
         exact ⟨rfl, rfl⟩
    ·have e1 : ¬ (1 : Int) < (u.size : Int) := by omega
     have e1' : decide ((1 : Int) < (u.size : Int)) = false := decide_eq_false e1
     by_cases z0 : u.size = 0
     ·have hz1 : u.toList.isEmpty = true := by rw [str_none]; exact decide_eq_true z0
      have hz2 : (u.toList == []) = true := by simpa using hz1
      have HN := Lib.hid (num_none HU.out (by rw [show u.data.toList = [] from List.length_eq_zero_iff.1 (by rw [← Lib.size_eq]; exact z0)]; rfl))
      go_wp2_with fail
      go_ret2
      exact ⟨by rw [← HNk.out.1, ← HNk.out.2, HN.out]; rfl, rfl⟩
     ·have hz1 : u.toList.isEmpty = false := by rw [str_none]; exact decide_eq_false z0
      have hz2 : (u.toList == []) = false := by simpa using hz1
      have ex : (0 : Int) < (u.size : Int) := by omega
      have HL := Lib.hid (chr_list (u := u) (by omega))
      by_cases l48 : bt u 0 < 48
      ·have e5 : decide (bt u 0 < 48) = true := decide_eq_true l48
       have HN := Lib.hid (num_none HU.out (by rw [HL.out]; exact digS_head (by unfold digB; have := HCh.out; rw [decide_eq_false (by omega)]; rfl)))
       go_wp2_with fail
       go_ret2
       exact ⟨by rw [← HNk.out.1, ← HNk.out.2, HN.out]; rfl, rfl⟩
      ·have e5 : decide (bt u 0 < 48) = false := decide_eq_false l48
       by_cases l57 : 57 < bt u 0
       ·have e6 : decide (57 < bt u 0) = true := decide_eq_true l57
        have HN := Lib.hid (num_none HU.out (by rw [HL.out]; exact digS_head (by unfold digB; have := HCh.out; rw [decide_eq_false (show ¬ (chr u 0).toNat ≤ 57 by omega), Bool.and_false])))
        go_wp2_with fail
        go_ret2
        exact ⟨by rw [← HNk.out.1, ← HNk.out.2, HN.out]; rfl, rfl⟩
       ·have e6 : decide (57 < bt u 0) = false := decide_eq_false l57
        have HR := Lib.hid (num_read HU.out _ _ HL.out (by unfold digB; have := HCh.out; rw [decide_eq_true (by omega), decide_eq_true (by omega)]; rfl) (by right; refine List.length_eq_zero_iff.1 ?_; have := congrArg List.length HL.out; rw [List.length_cons, ← Lib.size_eq] at this; omega))
        have HR2 := Lib.hid (show readI u.data.toList = ((numS t).getD 0, (readI u.data.toList).2) ∧ ((readI u.data.toList).2 == 0) = (numS t).isSome by
         have := HR.out
         rwa [if_neg (fun k => by cases k.1)] at this)
        have HCt := Lib.hid (rreadInt_s u w (by omega))
        obtain ⟨e2, he2⟩ : ∃ x, (readI u.data.toList).2 = x := ⟨_, rfl⟩
        have he3 : (readI u.data.toList).1 = nn := (congrArg Prod.fst HR2.out.1).trans HNk.out.1
        have he4 : (e2 == 0) = ok := by rw [← he2]; exact HR2.out.2.trans HNk.out.2
        rw [he2, he3] at HCt
        clear he2 he3
        go_wp2_with fail
        refine HCt.out.mono ?_
        rintro e w' ⟨rfl, rfl⟩
        go_wp2_with fail
        go_ret2
        exact ⟨rfl, rfl⟩
structure KT (w W : World) (ao : Option Addr) (n cap : Nat) (bo : Option Addr) (m dap : Nat) (tb : Nat) (p : ByteArray) (x : Int) (sg : Bool) : Prop where
 fb : FB w W ao n cap bo m dap
 ty : W.heap[tb]? = some (.cells #[.string p, .int .i64 x, .bool sg] 62)
 big : tb < W.heap.size
theorem KT.step {w W V : World} {ao : Option Addr} {n cap : Nat} {bo : Option Addr} {m dap tb : Nat} {p : ByteArray} {x : Int} {sg : Bool} (h : KT w W ao n cap bo m dap tb p x sg) (hb : Below W.heap.size W V) : KT w V ao n cap bo m dap tb p x sg :=
 ⟨h.fb.step hb, (hb.block _ h.big).trans h.ty, Nat.lt_of_lt_of_le h.big hb.size⟩
theorem KT.cells {w W : World} {ao : Option Addr} {n cap : Nat} {bo : Option Addr} {m dap tb : Nat} {p : ByteArray} {x : Int} {sg : Bool} (h : KT w W ao n cap bo m dap tb p x sg) :
  W.cell? ⟨w.heap.size, 0, none⟩ = some (.slice ao n cap) ∧ W.cell? ⟨w.heap.size, 1, none⟩ = some (.slice bo m dap) ∧ W.cell? ⟨tb, 0, none⟩ = some (.string p) ∧ W.cell? ⟨tb, 1, none⟩ = some (.int .i64 x) :=
 ⟨h.fb.cells.1, h.fb.cells.2, heap_cell h.ty rfl, heap_cell h.ty rfl⟩
theorem kt_new {w W : World} {ao : Option Addr} {n cap : Nat} {bo : Option Addr} {m dap : Nat} (h : FB w W ao n cap bo m dap) (p : ByteArray) (x : Int) (sg : Bool) : KT w (W.alloc (.cells #[.string p, .int .i64 x, .bool sg] 62)) ao n cap bo m dap W.heap.size p x sg :=
 ⟨h.step ((Below.refl _ _).alloc (Nat.le_refl _) _), heap_alloc_new W _, by simp⟩
theorem errT_form {ts : List Ty} {j : Nat} {p : ByteArray} {x : Int} {sg : Bool} (h : tyAt ts j = ⟨p, x, sg⟩) : errT ts j = if nameB p = false then 5 else if (tyOf (ts.take j) p).isSome = true then 7 else if x < 1 ∨ 5 < x then 8 else 0 := by unfold errT; rw [h]
set_option maxHeartbeats 8000000 in
theorem rCheck7_s (v : Value) (ts : List Ty) (cs : List Cl) (w : World) (h : SchV w v ts cs) :
  Calls Tryz.prog 60 #[v] w fun e w' => e = .returned (.int .i64 (chkS ts cs)) ∧ Below w.heap.size w w' := by
 obtain ⟨ao, n, cap, bo, m, dap, rfl, hT, hC, hsT, hsC⟩ := h
 have HV := Lib.hid (show SchV w (.agg #[.slice ao n cap, .slice bo m dap]) ts cs from ⟨ao, n, cap, bo, m, dap, rfl, hT, hC, hsT, hsC⟩)
 have htl := hT.1
 have hcl := hC.1
 have htx := hT.2.2.1
 have hcx := hC.2.2.1
 have htn := hT.2.1
 have hcn := hC.2.1
 unfold maxLen at htx hcx
 have HT := Lib.hid hT
 have HsT := Lib.hid hsT
 have HTL := Lib.hid htl
 have HCL := Lib.hid hcl
 clear hT hC hsT hsC htl hcl
 have HK0 := Lib.hid (fb_new w ao n cap bo m dap)
 go_enter Tryz.func60, Tryz.ntmps60
 by_cases L1 : 64 < n
 ·have d1 : decide ((64 : Int) < (n : Int)) = true := decide_eq_true (by omega)
  go_wp2_with fail
  go_ret
  exact ⟨by rw [chkS_limit (.inl (by rw [HTL.out]; exact L1))]; rfl, HK0.out.low⟩
 have d1 : decide ((64 : Int) < (n : Int)) = false := decide_eq_false (by omega)
 by_cases L2 : 32 < m
 ·have d2 : decide ((32 : Int) < (m : Int)) = true := decide_eq_true (by omega)
  go_wp2_with fail
  go_ret
  exact ⟨by rw [chkS_limit (.inr (by rw [HCL.out]; exact L2))]; rfl, HK0.out.low⟩
 have d2 : decide ((32 : Int) < (m : Int)) = false := decide_eq_false (by omega)
 have HLim := Lib.hid (show ¬ (64 < ts.length ∨ 32 < cs.length) by rw [HTL.out, HCL.out]; omega)
 go_wp2_with fail
 clear d1 d2
 generalize w.alloc (.cells #[.slice ao n cap, .slice bo m dap] 25) = W1 at HK0 ⊢
 go_loopw [3, 4] (fun i s4 wr => ∃ k : Nat, k ≤ n ∧ i = .int .i64 k ∧ Hid (∀ q, q < k → errT ts q = 0) ∧ Hid (FB w wr ao n cap bo m dap)) (fun i _ _ => n - (intOf i).toNat)
 case atStart => exact ⟨0, Nat.zero_le _, rfl, Lib.hid (fun q hq => absurd hq (Nat.not_lt_zero _)), HK0⟩
 case round =>
  obtain ⟨k, hk, rfl, HA, HKj⟩ := hrel
  obtain ⟨c0, c1⟩ := HKj.out.cells
  by_cases hlt : k < n
  ·have e1 : decide ((k : Int) < (n : Int)) = true := decide_eq_true (by omega)
   have e2 : (0 : Int) ≤ (k : Int) := by omega
   have e3 : (k : Int) < (n : Int) := by omega
   have e4 : (k : Int) ≤ (cap : Int) := by omega
   obtain ⟨b, off, rfl, hbl, hs⟩ := (HT.out.below HKj.out.low).2.2.2 (by omega)
   obtain ⟨y0, y1, y2⟩ := hs k hlt
   clear hs
   have hps := HsT.out _ (ty_mem ts k (by rw [HTL.out]; exact hlt))
   obtain ⟨T, hT⟩ : ∃ x, tyAt ts k = x := ⟨_, rfl⟩
   rw [hT] at y0 y1 y2 hps
   obtain ⟨p, x, sg⟩ := T
   simp only at y0 y1 y2 hps
   have HE := Lib.hid (errT_form hT)
   clear hT
   obtain ⟨nb, hnb⟩ : ∃ x, nameB p = x := ⟨_, rfl⟩
   have HNb := Lib.hid hnb
   clear hnb
   have HKn := Lib.hid (kt_new HKj.out p x sg)
   have HCt := Lib.hid (fun W (hb : Below w.heap.size w W) => typeAt_s (some ⟨b, off, none⟩) k cap (ts.take k) p W ((HT.out.below hb).cut (by omega)) (fun t ht => HsT.out t (List.mem_of_mem_take ht)) hps)
   obtain ⟨tb, htb⟩ : ∃ x, wr.heap.size = x := ⟨_, rfl⟩
   rw [htb] at HKn
   go_wp2_with fail
   generalize wr.alloc (.cells #[.string p, .int .i64 x, .bool sg] 62) = W2 at HKn ⊢
   clear c0 c1 y0 y1 y2 htb HKj
   obtain ⟨c0, c1, x0, x1⟩ := HKn.out.cells
   refine (rName_s p _ hps).mono ?_
   rintro e w1 ⟨rfl, rfl⟩
   rw [HNb.out]
   cases nb
   ·have HF := Lib.hid (show errT ts k = 5 by rw [HE.out, if_pos HNb.out])
    go_wp2_with fail
    go_ret
    exact ⟨by rw [chkS_type HLim.out (by rw [HTL.out]; exact hlt) HA.out (by rw [HF.out]; decide), HF.out]; rfl, HKn.out.fb.low⟩
   ·have HE2 := Lib.hid (show errT ts k = if (tyOf (ts.take k) p).isSome = true then 7 else if x < 1 ∨ 5 < x then 8 else 0 by rw [HE.out, if_neg (by rw [HNb.out]; decide)])
    clear HE HNb
    go_wp2_with fail
    refine wp_region_still_tail 6 (by kernel_rfl) (by kernel_rfl) ?_
    simp only [List.take_succ_cons, List.take_zero, List.drop_succ_cons, List.drop_zero]
    change wpStill _ _ (World.drew _) _ _ _
    still_step
    still_step
    still_step
    still_step
    still_step
    still_step
    refine wpStill_nil ?_
    change wpList _ _ _ _ _ (World.drew _)
    have HK1 := Lib.hid (HKn.out.step (Below.refl _ _).drew)
    clear c0 c1 x0 x1
    generalize World.drew _ = W3 at HK1 ⊢
    obtain ⟨c0, c1, x0, x1⟩ := HK1.out.cells
    go_wp2_with fail
    refine (HCt.out _ HK1.out.fb.low).mono ?_
    rintro e W4 ⟨r, rfl, hix, hb⟩
    have HK2 := Lib.hid (HK1.out.step hb)
    have HIx := Lib.hid hix.pos
    clear c0 c1 x0 x1 hb hix HCt
    obtain ⟨c0, c1, x0, x1⟩ := HK2.out.cells
    by_cases hr : 0 ≤ r
    ·have HF := Lib.hid (show errT ts k = 7 by rw [HE2.out, if_pos (by rcases HIx.out with h | h; exact h.2; omega)])
     go_wp2_with fail
     go_ret
     exact ⟨by rw [chkS_type HLim.out (by rw [HTL.out]; exact hlt) HA.out (by rw [HF.out]; decide), HF.out]; rfl, HK2.out.fb.low⟩
    ·have HE3 := Lib.hid (show errT ts k = if x < 1 ∨ 5 < x then 8 else 0 by rw [HE2.out, if_neg (by rcases HIx.out with h | h; omega; rw [h.2]; decide)])
     clear HE2
     by_cases hx : x < 1
     ·have d3 : decide (x < (1 : Int)) = true := decide_eq_true hx
      have HF := Lib.hid (show errT ts k = 8 by rw [HE3.out, if_pos (.inl hx)])
      go_wp2_with fail
      go_ret
      exact ⟨by rw [chkS_type HLim.out (by rw [HTL.out]; exact hlt) HA.out (by rw [HF.out]; decide), HF.out]; rfl, HK2.out.fb.low⟩
     ·have d3 : decide (x < (1 : Int)) = false := decide_eq_false hx
      by_cases hx5 : 5 < x
      ·have d4 : decide ((5 : Int) < x) = true := decide_eq_true hx5
       have HF := Lib.hid (show errT ts k = 8 by rw [HE3.out, if_pos (.inr hx5)])
       go_wp2_with fail
       go_ret
       exact ⟨by rw [chkS_type HLim.out (by rw [HTL.out]; exact hlt) HA.out (by rw [HF.out]; decide), HF.out]; rfl, HK2.out.fb.low⟩
      ·have d4 : decide ((5 : Int) < x) = false := decide_eq_false hx5
       have HF := Lib.hid (show errT ts k = 0 by rw [HE3.out, if_neg (by omega)])
       have HA2 := Lib.hid (show ∀ q, q < k + 1 → errT ts q = 0 from fun q hq => by
        by_cases h : q = k
        ·rw [h]; exact HF.out
        ·exact HA.out q (by omega))
       have HFB := Lib.hid HK2.out.fb
       go_wp2_with fail
       go_roundw
       case rel => exact ⟨k + 1, by omega, by go_num, HA2, HFB⟩
       case measure => simp [intOf]; omega
  ·obtain rfl : n = k := by omega
   have e1 : decide ((n : Int) < (n : Int)) = false := decide_eq_false (by omega)
   have HAll := Lib.hid (show ∀ q, q < ts.length → errT ts q = 0 by rw [HTL.out]; exact HA.out)
   clear HA
   go_wp2_with fail
   clear e1
   go_loopw [5, 6] (fun i s6 wr => ∃ k : Nat, k ≤ m ∧ i = .int .i64 k ∧ Hid (∀ q, q < k → errC ts cs q = 0) ∧ Hid (FB w wr ao n cap bo m dap)) (fun i _ _ => m - (intOf i).toNat)
   case atStart => exact ⟨0, Nat.zero_le _, rfl, Lib.hid (fun q hq => absurd hq (Nat.not_lt_zero _)), HKj⟩
   case round =>
    clear c0 c1 HKj
    obtain ⟨k, hk2, rfl, HA, HKj⟩ := hrel
    obtain ⟨c0, c1⟩ := HKj.out.cells
    by_cases hlt : k < m
    ·have e1 : decide ((k : Int) < (m : Int)) = true := decide_eq_true (by omega)
     have HCk := Lib.hid (classR_s _ ts cs k wr (HV.out.below HKj.out.low) (by rw [HCL.out]; exact hlt))
     obtain ⟨ec, hec⟩ : ∃ x, errC ts cs k = x := ⟨_, rfl⟩
     have HEc := Lib.hid hec
     rw [hec] at HCk
     clear hec
     go_wp2_with fail
     refine HCk.out.mono ?_
     rintro e W4 ⟨rfl, hb⟩
     have HK2 := Lib.hid (HKj.out.step hb)
     clear hb HCk c0 c1
     obtain ⟨c0, c1⟩ := HK2.out.cells
     by_cases h0 : ec = 0
     ·have HA2 := Lib.hid (show ∀ q, q < k + 1 → errC ts cs q = 0 from fun q hq => by
       by_cases h : q = k
       ·rw [h, HEc.out]; exact h0
       ·exact HA.out q (by omega))
      have d3 : (ec != 0) = false := by rw [h0]; rfl
      have d4 : (ec == 0) = true := by rw [h0]; rfl
      go_wp2_with fail
      go_roundw
      case rel => exact ⟨k + 1, by omega, by go_num, HA2, HK2⟩
      case measure => simp [intOf]; omega
     ·have d3 : (ec != 0) = true := by simpa using h0
      have d4 : (ec == 0) = false := by simpa using h0
      go_wp2_with fail
      go_ret
      exact ⟨by rw [chkS_class HLim.out HAll.out (by rw [HCL.out]; exact hlt) HA.out (by rw [HEc.out]; exact h0), HEc.out]; rfl, HK2.out.low⟩
    ·obtain rfl : m = k := by omega
     have e1 : decide ((m : Int) < (m : Int)) = false := decide_eq_false (by omega)
     have HAc := Lib.hid (show ∀ q, q < cs.length → errC ts cs q = 0 by rw [HCL.out]; exact HA.out)
     have HEnd := Lib.hid (chkS_last HLim.out HAll.out HAc.out)
     have HCt := Lib.hid (typeAt_s ao n cap ts classN wr (HT.out.below HKj.out.low) HsT.out (by decide))
     unfold classN at HCt
     go_wp2_with fail
     refine HCt.out.mono ?_
     rintro e W4 ⟨r, rfl, hix, hb⟩
     have HK2 := Lib.hid (HKj.out.step hb)
     clear hb HCt c0 c1
     obtain ⟨c0, c1⟩ := HK2.out.cells
     rcases hix with ⟨q, rfl, hq, hty⟩ | ⟨rfl, hty⟩
     ·have d3 : decide ((q : Int) < 0) = false := decide_eq_false (by omega)
      have hq' : q < n := by rw [← HTL.out]; exact hq
      obtain ⟨b, off, rfl, hbl, hs⟩ := (HT.out.below HK2.out.low).2.2.2 (by omega)
      obtain ⟨y0, y1, y2⟩ := hs q hq'
      clear hs
      have q0 : (0 : Int) ≤ (q : Int) := by omega
      have q1 : (q : Int) < (n : Int) := by omega
      obtain ⟨T, hT⟩ : ∃ x, tyAt ts q = x := ⟨_, rfl⟩
      rw [hT] at y0 y1 y2 hty
      obtain ⟨p, x, sg⟩ := T
      simp only at y0 y1 y2
      have HF := Lib.hid (show chkS ts cs = if x = 1 then 0 else 8 by
       rw [HEnd.out]
       unfold classN
       rw [hty]; rfl)
      clear hT hty
      by_cases hx : x = 1
      ·have d5 : (x == 1) = true := by rw [hx]; rfl
       have d6 : (x != 1) = false := by rw [hx]; rfl
       go_wp2_with fail
       go_ret
       exact ⟨by rw [HF.out, if_pos hx]; rfl, HK2.out.low⟩
      ·have d5 : (x == 1) = false := by simpa using hx
       have d6 : (x != 1) = true := by simpa using hx
       go_wp2_with fail
       go_ret
       exact ⟨by rw [HF.out, if_neg hx]; rfl, HK2.out.low⟩
     ·have d3 : decide ((-1 : Int) < 0) = true := by decide
      have HF := Lib.hid (show chkS ts cs = 6 by
       rw [HEnd.out]
       unfold classN
       rw [hty]; rfl)
      clear hty
      go_wp2_with fail
      go_ret
      exact ⟨by rw [HF.out]; rfl, HK2.out.low⟩
theorem nil_sch (w : World) : SchV w (.agg #[.slice none 0 0, .slice none 0 0]) [] [] :=
 ⟨none, 0, 0, none, 0, 0, rfl, ⟨rfl, Nat.le_refl _, by unfold maxLen; omega, fun h => absurd h (Nat.lt_irrefl _)⟩, ⟨rfl, Nat.le_refl _, by unfold maxLen; omega, fun h => absurd h (Nat.lt_irrefl _)⟩, (fun _ h => by cases h), (fun _ h => by cases h)⟩
set_option maxHeartbeats 4000000 in
theorem sound7_s (v : Value) (ts : List Ty) (cs : List Cl) (w : World) (h : SchV w v ts cs) :
  Calls Tryz.prog 216 #[v] w fun e w' => ∃ u, e = .returned u ∧ SchV w' u (soundT ts cs) (soundC ts cs) ∧ Below w.heap.size w w' := by
 have h' := h
 obtain ⟨ao, n, cap, bo, m, dap, rfl, _⟩ := h'
 have hb0 : Below w.heap.size w ((w.alloc (.cells #[.slice ao n cap, .slice bo m dap] 25)).alloc (.cells #[.slice none 0 0, .slice none 0 0] 25)) := ((Below.refl _ _).alloc (Nat.le_refl _) _).alloc (by simp) _
 have HB0 := Lib.hid hb0
 have HV := Lib.hid h
 have HC := Lib.hid (rCheck7_s _ ts cs _ (h.below hb0))
 obtain ⟨ec, hec⟩ : ∃ x, chkS ts cs = x := ⟨_, rfl⟩
 have HEc := Lib.hid hec
 rw [hec] at HC
 clear h hb0 hec
 go_enter Tryz.func216, Tryz.ntmps216
 go_wp2_with fail
 refine HC.out.mono ?_
 rintro e w1 ⟨rfl, hb⟩
 have c0 : w1.cell? ⟨w.heap.size, 0, none⟩ = some (.slice ao n cap) := cell_later hb (by go_simp)
 have c1 : w1.cell? ⟨w.heap.size, 1, none⟩ = some (.slice bo m dap) := cell_later hb (by go_simp)
 have r0 : w1.cell? ⟨w.heap.size + 1, 0, none⟩ = some (.slice none 0 0) := cell_later hb (by go_simp)
 have r1 : w1.cell? ⟨w.heap.size + 1, 1, none⟩ = some (.slice none 0 0) := cell_later hb (by go_simp)
 have f0 := frozen_later (i := 0) hb (b := w.heap.size + 1) (by simp) (by go_simp)
 have f1 := frozen_later (i := 1) hb (b := w.heap.size + 1) (by simp) (by go_simp)
 have hs1 : w.heap.size + 1 < w1.heap.size := by have := hb.size; simp at this; omega
 have hs0 : w.heap.size ≤ w.heap.size + 1 := Nat.le_succ _
 have HB1 := Lib.hid (HB0.out.trans (hb.mono (by simp; omega)))
 clear hb HC HB0
 by_cases h0 : ec = 0
 ·have d3 : (ec != 0) = false := by rw [h0]; rfl
  have d4 : (ec == 0) = true := by rw [h0]; rfl
  go_wp2_with fail
  refine bodyPost_ret (v := .agg #[.slice ao n cap, .slice bo m dap]) (by simp only [results, Tryz.results216]; go_simp) rfl ?_
  have HBe := (below_set1 (below_set1 HB1.out (w.heap.size + 1) 0 hs0 (.slice ao n cap)) (w.heap.size + 1) 1 hs0 (.slice bo m dap))
  first
   | exact ⟨_, rfl, by rw [show soundT ts cs = ts from if_pos (HEc.out.trans h0), show soundC ts cs = cs from if_pos (HEc.out.trans h0)]; exact HV.out.below HBe, HBe⟩
   | exact ⟨_, rfl, by rw [show soundT ts cs = ts from if_pos (HEc.out.trans h0), show soundC ts cs = cs from if_pos (HEc.out.trans h0)]; exact HV.out.below (HBe.alloc (by simp only [set_size]; omega) _), HBe.alloc (by simp only [set_size]; omega) _⟩
 ·have d3 : (ec != 0) = true := by simpa using h0
  have d4 : (ec == 0) = false := by simpa using h0
  have hbad := sound_bad (ts := ts) (cs := cs) (by rw [HEc.out]; exact h0)
  have HBad := Lib.hid hbad
  clear hbad
  go_wp2_with fail
  refine bodyPost_ret (v := .agg #[.slice none 0 0, .slice none 0 0]) (by simp only [results, Tryz.results216]; go_simp) rfl ?_
  have HBe := (below_set1 (below_set1 HB1.out (w.heap.size + 1) 0 hs0 (.slice none 0 0)) (w.heap.size + 1) 1 hs0 (.slice none 0 0))
  first
   | exact ⟨_, rfl, by rw [HBad.out.1, HBad.out.2]; exact nil_sch _, HBe⟩
   | exact ⟨_, rfl, by rw [HBad.out.1, HBad.out.2]; exact nil_sch _, HBe.alloc (by simp only [set_size]; omega) _⟩
theorem field_types (ao : Option Addr) (n cap : Nat) (bo : Option Addr) (m dap : Nat) (wr : World) : (Instr.field 25 (.agg #[.slice ao n cap, .slice bo m dap]) 0).run Tryz.prog wr = .ok (.slice ao n cap) wr := by kernel_rfl
theorem field_classes (ao : Option Addr) (n cap : Nat) (bo : Option Addr) (m dap : Nat) (wr : World) : (Instr.field 25 (.agg #[.slice ao n cap, .slice bo m dap]) 1).run Tryz.prog wr = .ok (.slice bo m dap) wr := by kernel_rfl
set_option maxHeartbeats 4000000 in
theorem type7_s (v : Value) (ts : List Ty) (cs : List Cl) (n : ByteArray) (w : World) (h : SchV w v ts cs) (hn : n.size ≤ 1000000000) :
  Calls Tryz.prog 139 #[v, .string n] w fun e w' => e = .returned (.tuple #[tyV ((tyOf (soundT ts cs) n).getD zeroTy), .bool (tyOf (soundT ts cs) n).isSome]) ∧ Below w.heap.size w w' := by
 have h' := h
 obtain ⟨ao, k, cap, bo, m, dap, rfl, _⟩ := h'
 have hb0 : Below w.heap.size w ((w.alloc (.cells #[.slice ao k cap, .slice bo m dap] 25)).alloc (.cells #[.string ⟨#[]⟩, .int .i64 0, .bool false] 62)) := ((Below.refl _ _).alloc (Nat.le_refl _) _).alloc (by simp) _
 have HB0 := Lib.hid hb0
 have HC := Lib.hid (sound7_s _ ts cs _ (h.below hb0))
 clear h hb0
 go_enter Tryz.func139, Tryz.ntmps139
 go_wp2_with fail
 refine HC.out.mono ?_
 rintro e w1 ⟨u, rfl, ⟨ao', k', cap', bo', m', dap', rfl, hT, _, hsT, _⟩, hb⟩
 have HB1 := Lib.hid (HB0.out.trans (hb.mono (by simp; omega)))
 have HT := Lib.hid hT
 have hkl := hT.1
 have HCt := Lib.hid (typeAt_s ao' k' cap' (soundT ts cs) n w1 hT hsT hn)
 have r0 : w1.cell? ⟨w.heap.size + 1, 0, none⟩ = some (.string ⟨#[]⟩) := cell_later hb (by go_simp)
 have r1 : w1.cell? ⟨w.heap.size + 1, 1, none⟩ = some (.int .i64 0) := cell_later hb (by go_simp)
 have r2 : w1.cell? ⟨w.heap.size + 1, 2, none⟩ = some (.bool false) := cell_later hb (by go_simp)
 have f0 := frozen_later (i := 0) hb (b := w.heap.size + 1) (by simp) (by go_simp)
 have f1 := frozen_later (i := 1) hb (b := w.heap.size + 1) (by simp) (by go_simp)
 have f2 := frozen_later (i := 2) hb (b := w.heap.size + 1) (by simp) (by go_simp)
 have hs1 : w.heap.size + 1 < w1.heap.size := by have := hb.size; simp at this; omega
 have HR := Lib.hid (And.intro r0 (And.intro r1 (And.intro r2 (And.intro f0 (And.intro f1 f2)))))
 have HKl := Lib.hid hkl
 have hfd := field_types ao' k' cap' bo' m' dap'
 clear hb hT hsT HC HB0 r0 r1 r2 f0 f1 f2 hkl
 go_wp2_with fail
 refine HCt.out.mono ?_
 rintro e w2 ⟨r, rfl, hix, hb⟩
 have r0 := cell_later hb HR.out.1
 have r1 := cell_later hb HR.out.2.1
 have r2 := cell_later hb HR.out.2.2.1
 have f0 := frozen_later hb hs1 HR.out.2.2.2.1
 have f1 := frozen_later hb hs1 HR.out.2.2.2.2.1
 have f2 := frozen_later hb hs1 HR.out.2.2.2.2.2
 have HB2 := Lib.hid (HB1.out.trans (hb.mono HB1.out.size))
 have HT2 := Lib.hid (HT.out.below hb)
 have hs0 : w.heap.size ≤ w.heap.size + 1 := Nat.le_succ _
 clear hb HCt HR HT
 rcases hix with ⟨q, rfl, hq, hty⟩ | ⟨rfl, hty⟩
 ·rw [HKl.out] at hq
  have d3 : (0 : Int) ≤ (q : Int) := by omega
  have d4 : (q : Int) < (k' : Int) := by omega
  obtain ⟨b, off, rfl, hbl, hs⟩ := HT2.out.2.2.2 (by omega)
  obtain ⟨y0, y1, y2⟩ := hs q hq
  clear hs
  obtain ⟨T, hT⟩ : ∃ x, tyAt (soundT ts cs) q = x := ⟨_, rfl⟩
  rw [hT] at y0 y1 y2 hty
  clear hT
  obtain ⟨p, x, sg⟩ := T
  simp only at y0 y1 y2
  have HTy := Lib.hid hty
  clear hty
  go_wp2_with fail
  refine bodyPost_ret (v := .tuple #[.agg #[.string p, .int .i64 x, .bool sg], .bool true]) (by simp only [results, Tryz.results139]; go_simp) rfl ?_
  exact ⟨by rw [HTy.out]; rfl, below_set1 (below_set1 (below_set1 HB2.out (w.heap.size + 1) 0 hs0 _) (w.heap.size + 1) 1 hs0 _) (w.heap.size + 1) 2 hs0 _⟩
 ·have d3 : ¬ (0 : Int) ≤ (-1 : Int) := by decide
  have HTy := Lib.hid hty
  clear hty
  go_wp2_with fail
  refine bodyPost_ret (v := .tuple #[.agg #[.string ⟨#[]⟩, .int .i64 0, .bool false], .bool false]) (by simp only [results, Tryz.results139]; go_simp) rfl ?_
  exact ⟨by rw [HTy.out]; rfl, below_set1 (below_set1 (below_set1 HB2.out (w.heap.size + 1) 0 hs0 _) (w.heap.size + 1) 1 hs0 _) (w.heap.size + 1) 2 hs0 _⟩
end Go.Proofs.YtmmdaegdkikkpaaGreatDoor
end
