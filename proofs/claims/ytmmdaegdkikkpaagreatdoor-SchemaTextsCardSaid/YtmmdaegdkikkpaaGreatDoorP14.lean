/-
  Texts of the schema layer and of those beneath it, joined: SchFns, SchVl, SchVal, ShelfJ, SchNrm, SchCon, SchRdL. Conditions stand at each contract.
-/
import Derived.Shelf.Small.Wraps
import Derived.Ground.SlgnProg
import Derived.Ground.SlgfProg
import Derived.Ground.SlgmProg
import Derived.Lib.ItoaLen
import Derived.Lib.SplitLaws
import Derived.Test.YtmmdaegdkikkpaaGreatDoorProg
import Derived.Test.YtmmdaegdkikkpaaGreatDoorP01
import Derived.Test.YtmmdaegdkikkpaaGreatDoorP02
import Derived.Test.YtmmdaegdkikkpaaGreatDoorP03
import Derived.Test.YtmmdaegdkikkpaaGreatDoorP04
import Derived.Test.YtmmdaegdkikkpaaGreatDoorP06
import Derived.Test.YtmmdaegdkikkpaaGreatDoorP08
import Derived.Test.YtmmdaegdkikkpaaGreatDoorP13
set_option linter.unusedVariables false
set_option linter.unusedSimpArgs false
set_option linter.unnecessarySimpa false

section
/-
  Contracts of schema's Lineage, Must, May. Condition: names of at most 1000000000 bytes.
-/
set_option maxRecDepth 100000
namespace Go.Proofs.YtmmdaegdkikkpaaGreatDoor
open Go.RowKit Go.PlainAid
/-- a slice of strings as a value -/
def StrsV (w : World) (v : Value) (l : List ByteArray) : Prop := ∃ ao n cap, v = .slice ao n cap ∧ StrsAt w ao n cap l
theorem StrsV.below {w w' : World} {v : Value} {l : List ByteArray} (h : StrsV w v l) (hb : Below w.heap.size w w') : StrsV w' v l := by
  obtain ⟨ao, n, cap, e, h⟩ := h; exact ⟨ao, n, cap, e, h.below hb⟩
theorem strsV_own {w : World} {base : Nat} {v : Value} {l : List ByteArray} (h : w.ownsRow base 9 1 v l.length (scells l)) : StrsV w v l := by
  obtain ⟨ao, cap, e, hs⟩ := strs_own h rfl; exact ⟨ao, _, cap, e, hs⟩
set_option maxHeartbeats 4000000 in
theorem mustF_s (v : Value) (ts : List Ty) (cs : List Cl) (n : ByteArray) (w : World) (h : SchV w v ts cs) (hn : n.size ≤ 1000000000) :
    Calls Tryz.prog 53 #[v, .string n] w fun e w' => ∃ u, e = .returned u ∧ StrsV w' u (mustS (soundC ts cs) n) ∧ Below w.heap.size w w' := by
  have h' := h
  obtain ⟨ao, k, cap, bo, m, dap, rfl, _, _, _, hz⟩ := h'
  have HZ := Lib.hid (smC_sound (ts := ts) hz)
  have hb0 : Below w.heap.size w (w.alloc (.cells #[.slice ao k cap, .slice bo m dap] 25)) := (Below.refl _ _).alloc (Nat.le_refl _) _
  have HB0 := Lib.hid hb0
  have HC := Lib.hid (accepted_s _ ts cs _ (h.below hb0))
  clear h hb0 hz
  go_enter Tryz.func53, Tryz.ntmps53
  go_wp2_with fail
  refine HC.out.mono ?_
  rintro e w1 ⟨tv, rfl, ⟨m1, m2, rfl, hT, hC⟩, hb⟩
  have HB1 := Lib.hid (HB0.out.trans (hb.mono (by simp)))
  have HC2 := Lib.hid (must_s m1 m2 w1 (soundC ts cs) n w1 (Below.refl _ _) hC (sound_soundC ts cs) (Nat.le_trans (soundC_len ts cs) (by decide)) HZ.out (fewC_sound ts cs) hn)
  clear hb hT hC HC HB0
  go_wp2_with fail
  refine HC2.out.mono ?_
  rintro e w2 ⟨u, rfl, ho, hb⟩
  have HO := Lib.hid (strsV_own ho)
  have HB2 := Lib.hid (HB1.out.trans (hb.mono HB1.out.size))
  clear ho hb
  go_wp2_with fail
  go_ret
  exact ⟨_, rfl, HO.out, HB2.out⟩
set_option maxHeartbeats 4000000 in
theorem mayF_s (v : Value) (ts : List Ty) (cs : List Cl) (n : ByteArray) (w : World) (h : SchV w v ts cs) (hn : n.size ≤ 1000000000) :
    Calls Tryz.prog 54 #[v, .string n] w fun e w' => ∃ u, e = .returned u ∧ StrsV w' u (mayS (soundC ts cs) n) ∧ Below w.heap.size w w' := by
  have h' := h
  obtain ⟨ao, k, cap, bo, m, dap, rfl, _, _, _, hz⟩ := h'
  have HZ := Lib.hid (smC_sound (ts := ts) hz)
  have hb0 : Below w.heap.size w (w.alloc (.cells #[.slice ao k cap, .slice bo m dap] 25)) := (Below.refl _ _).alloc (Nat.le_refl _) _
  have HB0 := Lib.hid hb0
  have HC := Lib.hid (accepted_s _ ts cs _ (h.below hb0))
  clear h hb0 hz
  go_enter Tryz.func54, Tryz.ntmps54
  go_wp2_with fail
  refine HC.out.mono ?_
  rintro e w1 ⟨tv, rfl, ⟨m1, m2, rfl, hT, hC⟩, hb⟩
  have HB1 := Lib.hid (HB0.out.trans (hb.mono (by simp)))
  have HC2 := Lib.hid (may_s m1 m2 w1 (soundC ts cs) n w1 (Below.refl _ _) hC (sound_soundC ts cs) (Nat.le_trans (soundC_len ts cs) (by decide)) HZ.out (fewC_sound ts cs) hn)
  clear hb hT hC HC HB0
  go_wp2_with fail
  refine HC2.out.mono ?_
  rintro e w2 ⟨u, rfl, ho, hb⟩
  have HO := Lib.hid (strsV_own ho)
  have HB2 := Lib.hid (HB1.out.trans (hb.mono HB1.out.size))
  clear ho hb
  go_wp2_with fail
  go_ret
  exact ⟨_, rfl, HO.out, HB2.out⟩
/-- the names of the lineage -/
def lineN (cs : List Cl) (n : ByteArray) : List ByteArray := (lineS cs n).map fun c => c.name
set_option maxHeartbeats 8000000 in
theorem lineageF_s (v : Value) (ts : List Ty) (cs : List Cl) (n : ByteArray) (w : World) (h : SchV w v ts cs) (hn : n.size ≤ 1000000000) :
    Calls Tryz.prog 52 #[v, .string n] w fun e w' => ∃ u, e = .returned u ∧ StrsV w' u (lineN (soundC ts cs) n) ∧ Below w.heap.size w w' := by
  have h' := h
  obtain ⟨ao, k, cap, bo, m, dap, rfl, _, _, _, hz⟩ := h'
  have HZ := Lib.hid (smC_sound (ts := ts) hz)
  have hb0 : Below w.heap.size w (w.alloc (.cells #[.slice ao k cap, .slice bo m dap] 25)) := (Below.refl _ _).alloc (Nat.le_refl _) _
  have HB0 := Lib.hid hb0
  have HC := Lib.hid (accepted_s _ ts cs _ (h.below hb0))
  clear h hb0 hz
  go_enter Tryz.func52, Tryz.ntmps52
  go_wp2_with fail
  refine HC.out.mono ?_
  rintro e w1 ⟨tv, rfl, ⟨m1, m2, rfl, hT, hC⟩, hb⟩
  have HB1 := Lib.hid (HB0.out.trans (hb.mono (by simp)))
  have HC2 := Lib.hid (lineage_s m1 m2 w1 (soundC ts cs) n w1 hC (sound_soundC ts cs) (Nat.le_trans (soundC_len ts cs) (by decide)) HZ.out hn)
  have hlen := Nat.le_trans (lineS_small (sound_soundC ts cs) n) (soundC_len ts cs)
  clear hb hT hC HC HB0
  go_wp2_with fail
  refine HC2.out.mono ?_
  rintro e w2 ⟨u, l, rfl, hl, hok, hown, hb⟩
  have hll : l.length ≤ 32 := by rw [← ccls_len, hl]; exact hlen
  have HE := Lib.hid (show lineN (soundC ts cs) n = l.map fun d => d.cl.name by unfold lineN; rw [← hl]; unfold ccls; rw [List.map_map]; rfl)
  have HOK := Lib.hid hok
  obtain ⟨ro, rcap, rfl⟩ := own_slc hown
  have HOW := Lib.hid hown
  have HB2 := Lib.hid (HB1.out.trans (hb.mono HB1.out.size))
  clear hb hok hl hown HC2 HB1 hlen
  go_wp2_with fail
  go_loopw [5, 7, 13] (fun s5 s7 i wr => ∃ (k : Nat), k ≤ l.length ∧ i = .int .i64 k ∧ Hid (wr.ownsRow w2.heap.size 9 1 s5 k (scells ((l.take k).map fun d => d.cl.name))) ∧ Hid (Below w2.heap.size w2 wr)) (fun _ _ i _ => l.length - (intOf i).toNat)
  case atStart => exact ⟨0, Nat.zero_le _, rfl, Lib.hid (World.ownsRow_nil _ _ _ _), Lib.hid (Below.refl _ _)⟩
  case round =>
    obtain ⟨k, hk, rfl, HO, HB⟩ := hrel
    by_cases hlt : k < l.length
    · have d1 : (k : Int) < (l.length : Int) := by omega
      obtain ⟨g, cap', e, hg1, hg2⟩ := own_loc HOW.out (by omega)
      simp only [Value.slice.injEq] at e
      obtain ⟨rfl, _, rfl⟩ := e
      obtain ⟨c0, c1, c2, c3⟩ := cls_at HOW.out k hlt
      obtain ⟨hHm, hHy⟩ := HOK.out _ (cv_mem l k hlt)
      have HT := Lib.hid (show (l.take (k + 1)).map (fun d => d.cl.name) = (l.take k).map (fun d => d.cl.name) ++ [(l.getD k default).cl.name] by rw [cv_take l k hlt, List.map_append]; rfl)
      obtain ⟨d, hd⟩ : ∃ d, l.getD k default = d := ⟨_, rfl⟩
      rw [hd] at c0 c1 c2 c3 HT hHm hHy
      clear hd
      obtain ⟨vo, vn, vc, e1, _⟩ := hHm
      obtain ⟨uo, un, uc, e2, _⟩ := hHy
      rw [e1] at c2
      rw [e2] at c3
      clear e1 e2
      have c0 := cell_later HB.out c0
      have c1 := cell_later HB.out c1
      have c2 := cell_later HB.out c2
      have c3 := cell_later HB.out c3
      have hown1 := HO.out.alloc (.cells #[.string d.cl.name, .string d.cl.super, .slice vo vn vc, .slice uo un uc] 64)
      have hal := (Below.refl wr.heap.size wr).alloc (Nat.le_refl _) (.cells #[.string d.cl.name, .string d.cl.super, .slice vo vn vc, .slice uo un uc] 64)
      have HAL := Lib.hid (HB.out.trans (hal.mono HB.out.size))
      have hsz1 : w2.heap.size ≤ (wr.alloc (.cells #[.string d.cl.name, .string d.cl.super, .slice vo vn vc, .slice uo un uc] 64)).heap.size := by have := HB.out.size; simp; omega
      clear hal
      go_wp2_with (at_builtin; go_must (refine push_str (wr.alloc (.cells #[.string d.cl.name, .string d.cl.super, .slice vo vn vc, .slice uo un uc] 64)) hown1 (.tmp 17) (.tmp 20) d.cl.name ?_ ?_ ?_ ?_ ?_ ?_ ?_; exact rfl; exact rfl; exact rfl; (rw [World.size_alloc]; exact rfl); omega; exact hsz1; intro v3 w3 hown3 hb3))
      have HO3 := Lib.hid hown3
      have HB3 := Lib.hid (HAL.out.trans hb3)
      clear hown3 hb3 hown1
      go_roundw
      case rel =>
        refine ⟨k + 1, by omega, by go_num, Lib.hid ?_, HB3⟩
        rw [HT.out, scells_snoc]
        exact HO3.out
      case measure => simp [intOf]; omega
    · obtain rfl : k = l.length := by omega
      have d1 : ¬ (l.length : Int) < (l.length : Int) := by omega
      rw [List.take_length] at HO
      have HO4 := Lib.hid (show wr.ownsRow w2.heap.size 9 1 u5 (lineN (soundC ts cs) n).length (scells (lineN (soundC ts cs) n)) by rw [HE.out, List.length_map]; exact HO.out)
      go_wp2_with fail
      go_ret
      exact ⟨_, rfl, strsV_own HO4.out, HB2.out.trans (HB.out.mono HB2.out.size)⟩
end Go.Proofs.YtmmdaegdkikkpaaGreatDoor
end

section
/-
  The normal form of a value, as a pure value: of numbers with leading zeros, of truths, of each syntax. No condition.
-/
set_option maxRecDepth 100000
namespace Go.Proofs.YtmmdaegdkikkpaaGreatDoor
open Go.RowKit Go.PlainAid
/-- digits, at least one -/
def digS (l : List UInt8) : Bool := !l.isEmpty && l.all digB
theorem mag_all {l : List UInt8} (h : digS l = true) : Fair (Lib.parseMag l) := by
  cases l with
  | nil => cases h
  | cons c r =>
    unfold digS at h
    rw [Bool.and_eq_true] at h
    unfold Lib.parseMag
    rw [if_neg (by simp)]
    exact parse_digits _ _ h.2
theorem digS_atoi {l : List UInt8} (h : digS (stripL l) = true) : Fair (Lib.atoiAll l) := by
  cases l with
  | nil => cases h
  | cons c r =>
    by_cases hc : c = 45
    · subst hc
      rw [strip_minus] at h
      rw [Lib.atoiAll_minus]
      exact signed_fair (mag_all h)
    · rw [strip_plain c r hc] at h
      have hd : digB c = true := by
        unfold digS at h
        simp only [Bool.and_eq_true, List.all_cons] at h
        exact h.2.1
      have h2 : 48 ≤ c.toNat ∧ c.toNat ≤ 57 := by simpa [digB] using hd
      rw [Lib.atoiAll_plain c r (by omega) (by omega)]
      exact signless_fair (mag_all h)
/-- the number with these digits -/
def numS (s : ByteArray) : Option Int := if digS (stripL s.data.toList) then (match Lib.atoiAll s.data.toList with
  | .ok v => some v
  | _ => none) else none
def trueS : ByteArray := ⟨#[116, 114, 117, 101]⟩
def falseS : ByteArray := ⟨#[102, 97, 108, 115, 101]⟩
def truthS (s : ByteArray) : Option ByteArray := if lowS s = trueS then some ⟨#[84, 82, 85, 69]⟩ else if lowS s = falseS then some ⟨#[70, 65, 76, 83, 69]⟩ else none
/-- the form of a value that has the syntax -/
def formS (x : Int) (v : ByteArray) : Option ByteArray :=
  if x = 1 then some (foldS v)
  else if x = 2 then some v
  else if x = 3 then (numS v).map fun n => ofL (Lib.itoa n)
  else if x = 4 then (if Nam.cleanE v = 0 then some (Nam.cleanV v) else none)
  else truthS v
def normS (x : Int) (v : ByteArray) : Option ByteArray := (formS x v).bind fun f => if cleanB v = true ∧ cleanB f = true then some f else none
end Go.Proofs.YtmmdaegdkikkpaaGreatDoor
end

section
/-
  Contracts of schema's digits, number, truth, normalForm and normal. Condition: values of at most 1000000 bytes.
-/
set_option maxRecDepth 100000
namespace Go.Proofs.YtmmdaegdkikkpaaGreatDoor
open Go.RowKit Go.PlainAid
set_option maxHeartbeats 4000000 in
theorem truth_s (s : ByteArray) (w : World) (hs : s.size ≤ 1000000000) :
    Calls Tryz.prog 233 #[.string s] w fun e w' => e = .returned (.tuple #[.string ((truthS s).getD ⟨#[]⟩), .bool (truthS s).isSome]) ∧ Below w.heap.size w w' := by
  have HE := Lib.hid (show truthS s = if lowS s = trueS then some ⟨#[84, 82, 85, 69]⟩ else if lowS s = falseS then some ⟨#[70, 65, 76, 83, 69]⟩ else none from rfl)
  obtain ⟨b1, h1⟩ : ∃ b, ((lowS s).toList == ([116, 114, 117, 101] : List UInt8)) = b := ⟨_, rfl⟩
  obtain ⟨b2, h2⟩ : ∃ b, ((lowS s).toList == ([102, 97, 108, 115, 101] : List UInt8)) = b := ⟨_, rfl⟩
  have e1 : (lowS s = trueS) ↔ b1 = true := by
    have h := str_eq (lowS s) trueS
    rw [show trueS.toList = ([116, 114, 117, 101] : List UInt8) by rw [Lib.toList_data]; rfl, h1] at h
    rw [h]; simp
  have e2 : (lowS s = falseS) ↔ b2 = true := by
    have h := str_eq (lowS s) falseS
    rw [show falseS.toList = ([102, 97, 108, 115, 101] : List UInt8) by rw [Lib.toList_data]; rfl, h2] at h
    rw [h]; simp
  have HE2 := Lib.hid (show truthS s = if b1 = true then some ⟨#[84, 82, 85, 69]⟩ else if b2 = true then some ⟨#[70, 65, 76, 83, 69]⟩ else none by rw [HE.out]; simp only [e1, e2])
  clear e1 e2 HE
  go_enter Tryz.func233, Tryz.ntmps233
  go_wp2_with fail
  refine (lower_s s _ hs).mono ?_
  rintro e w1 ⟨rfl, hb⟩
  have HB := Lib.hid hb; clear hb
  cases b1
  · cases b2
    · have HE3 := Lib.hid (show truthS s = none from HE2.out.trans (by simp))
      clear HE2
      go_wp2_with fail
      go_ret2
      exact ⟨by rw [HE3.out]; rfl, HB.out⟩
    · have HE3 := Lib.hid (show truthS s = some ⟨#[70, 65, 76, 83, 69]⟩ from HE2.out.trans (by simp))
      clear HE2
      go_wp2_with fail
      go_ret2
      exact ⟨by rw [HE3.out]; rfl, HB.out⟩
  · have HE3 := Lib.hid (show truthS s = some ⟨#[84, 82, 85, 69]⟩ from HE2.out.trans (by simp))
    clear HE2
    go_wp2_with fail
    go_ret2
    exact ⟨by rw [HE3.out]; rfl, HB.out⟩
theorem digS_all {s : ByteArray} (h : ∀ j, j < s.size → digB (chr s j) = true) : digS s.data.toList = !s.toList.isEmpty := by
  unfold digS
  rw [Lib.toList_data]
  have : s.data.toList.all digB = true := by
    rw [List.all_eq_true]
    intro c hc
    obtain ⟨j, hj, rfl⟩ := List.mem_iff_getElem.1 hc
    have h2 := h j (by rw [Lib.size_eq]; exact hj)
    unfold chr at h2
    rwa [List.getD_eq_getElem?_getD, List.getElem?_eq_getElem hj] at h2
  rw [this, Bool.and_true]
theorem digS_not {s : ByteArray} {k : Nat} (hk : k < s.size) (h : digB (chr s k) = false) : digS s.data.toList = false := by
  unfold digS
  have : s.data.toList.all digB = false := by
    rw [Lib.size_eq] at hk
    cases e : s.data.toList.all digB with
    | false => rfl
    | true =>
      have h2 := List.all_eq_true.1 e _ (List.getElem_mem hk)
      unfold chr at h
      rw [List.getD_eq_getElem?_getD, List.getElem?_eq_getElem hk] at h
      rw [show (some s.data.toList[k]).getD 0 = s.data.toList[k] from rfl] at h
      rw [h] at h2; cases h2
  rw [this, Bool.and_false]
/-- digits all along -/
theorem digits_s (s : ByteArray) (w : World) (hs : s.size ≤ 1000000000) :
    Calls Tryz.prog 268 #[.string s] w fun e w' => e = .returned (.bool (digS s.data.toList)) ∧ w = w' := by
  go_enter Tryz.func268, Tryz.ntmps268
  go_wp2
  go_loopw [3, 6] (fun s3 i wr => ∃ k : Nat, k ≤ s.size ∧ i = .int .i64 k ∧ Hid (∀ j, j < k → digB (chr s j) = true) ∧ w = wr) (fun _ i _ => s.size - (intOf i).toNat)
  case atStart => exact ⟨0, Nat.zero_le _, rfl, Lib.hid (fun j hj => absurd hj (Nat.not_lt_zero _)), rfl⟩
  case round =>
    obtain ⟨k, hk, rfl, HA, rfl⟩ := hrel
    by_cases hlt : k < s.size
    · have d1 : (k : Int) < (s.size : Int) := by omega
      obtain ⟨v, hv⟩ : ∃ v, (s[k]'hlt).toNat = v := ⟨_, rfl⟩
      have hbc : (chr s k).toNat = v := by
        have := (byte_chr s k hlt).trans (bt_chr s k)
        omega
      cases hd : digB (chr s k)
      · have HE := Lib.hid (digS_not hlt hd)
        have hor : v < 48 ∨ (¬ v < 48 ∧ 57 < v) := by
          simp only [digB, Bool.and_eq_false_iff, decide_eq_false_iff_not, hbc] at hd
          omega
        clear hbc hd
        rcases hor with c1 | ⟨c1, c2⟩
        · have c1' : (v : Int) < 48 := by omega
          go_wp2_with fail
          go_ret
          exact ⟨by rw [HE.out]; rfl, rfl⟩
        · have c1' : ¬ (v : Int) < 48 := by omega
          have c2' : (57 : Int) < (v : Int) := by omega
          go_wp2_with fail
          go_ret
          exact ⟨by rw [HE.out]; rfl, rfl⟩
      · have c1 : ¬ (v : Int) < 48 := by
          simp only [digB, Bool.and_eq_true, decide_eq_true_eq, hbc] at hd
          omega
        have c2 : ¬ (57 : Int) < (v : Int) := by
          simp only [digB, Bool.and_eq_true, decide_eq_true_eq, hbc] at hd
          omega
        have HD := Lib.hid hd
        clear hbc hd
        go_wp2_with fail
        go_roundw
        case rel =>
          refine ⟨k + 1, by omega, by go_num, Lib.hid fun j hj => ?_, trivial⟩
          rcases Nat.lt_or_ge j k with h | h
          · exact HA.out j h
          · obtain rfl : j = k := by omega
            exact HD.out
        case measure => simp [intOf]; omega
    · obtain rfl : k = s.size := by omega
      have d1 : ¬ (s.size : Int) < (s.size : Int) := by omega
      have HE := Lib.hid (digS_all HA.out)
      go_wp2_with fail
      go_ret
      exact ⟨by rw [HE.out]; rfl, rfl⟩
theorem trim_small (s : ByteArray) : (⟨(stripL s.data.toList).toArray⟩ : ByteArray).size ≤ s.size := by
  rw [Lib.size_mk, Lib.size_eq]
  unfold stripL Lib.trimPrefix
  split
  · simp
  · exact Nat.le_refl _
theorem sat_bounds (l : List UInt8) : -9223372036854775808 ≤ Lib.atoiSat l ∧ Lib.atoiSat l ≤ 9223372036854775807 := by
  unfold Lib.atoiSat
  split
  · exact ⟨Int.le_refl _, by decide⟩
  · exact ⟨by decide, Int.le_refl _⟩
set_option maxHeartbeats 4000000 in
theorem number_s (s : ByteArray) (w : World) (hs : s.size ≤ 1000000) (ho : IntOk w) :
    Calls Tryz.prog 231 #[.string s] w fun e w' => ∃ n : Int, -9223372036854775808 ≤ n ∧ n ≤ 9223372036854775807 ∧ e = .returned (.tuple #[.int .i64 n, .bool (numS s).isSome]) ∧ (∀ m, numS s = some m → n = m) ∧ Below w.heap.size w w' := by
  have HO := Lib.hid ho; clear ho
  have HT := Lib.hid (fun W => Tryz.strings_TrimPrefix s ⟨#[45]⟩ W)
  have HD := Lib.hid (fun W => digits_s (⟨(stripL s.data.toList).toArray⟩) W (Nat.le_trans (trim_small s) (by omega)))
  obtain ⟨dg, hdg⟩ : ∃ b, digS (stripL s.data.toList) = b := ⟨_, rfl⟩
  have HDG := Lib.hid hdg; clear hdg
  go_enter Tryz.func231, Tryz.ntmps231
  go_wp2_with fail
  refine (HT.out _).mono ?_
  rintro e w1 ⟨rfl, rfl⟩
  go_wp2_with fail
  refine (HD.out _).mono ?_
  rintro e w1 ⟨rfl, rfl⟩
  dsimp only
  rw [HDG.out]
  cases dg
  · have HE := Lib.hid (show numS s = none by unfold numS; rw [HDG.out]; rfl)
    go_wp2_with fail
    go_ret2
    exact ⟨0, by decide, by decide, by rw [HE.out]; rfl, (fun m hm => by rw [HE.out] at hm; cases hm), Below.refl _ _⟩
  · rcases digS_atoi HDG.out with ⟨v, ha⟩ | ha
    · have HE := Lib.hid (show numS s = some v by unfold numS; rw [HDG.out, ha]; rfl)
      have HC := Lib.hid (fun W => atoi_ok s v W (by omega) ha)
      have hv := Lib.atoiAll_bounds ha
      clear ha
      go_wp2_with fail
      refine (HC.out _).mono ?_
      rintro e w2 ⟨rfl, hb⟩
      have HB := Lib.hid hb; clear hb
      go_wp2_with fail
      go_quiet (fail)
      go_wp2_with fail
      go_ret2
      exact ⟨v, hv.1, hv.2, by rw [HE.out]; rfl, (fun m hm => by rw [HE.out] at hm; exact Option.some.inj hm), HB.out.os, HB.out.tape, HB.out.output, HB.out.size, HB.out.block⟩
    · have HE := Lib.hid (show numS s = none by unfold numS; rw [HDG.out, ha]; rfl)
      have HA := Lib.hid ha
      have hv := sat_bounds s.data.toList
      obtain ⟨_, tp, p, hvar⟩ := HO.out
      have HC := Lib.hid (Tryz.strconv_Atoi_range_var s (by omega) ha tp p _ hvar)
      clear ha hvar
      go_wp2_with fail
      refine HC.out.mono ?_
      rintro e w2 ⟨N, rfl, _, _, hb⟩
      have HB := Lib.hid hb; clear hb
      go_wp2_with fail
      go_quiet (fail)
      go_wp2_with fail
      go_ret2
      exact ⟨_, hv.1, hv.2, by rw [HE.out]; rfl, (fun m hm => by rw [HE.out] at hm; cases hm), HB.out.os, HB.out.tape, HB.out.output, HB.out.size, HB.out.block⟩
/-- the bytes of a normal form are few -/
theorem normalForm_s (x : Int) (s : ByteArray) (w : World) (hs : s.size ≤ 1000000) (ho : IntOk w) :
    Calls Tryz.prog 166 #[.int .i64 x, .string s] w fun e w' => ∃ f : ByteArray, e = .returned (.tuple #[.string f, .bool (formS x s).isSome]) ∧ (∀ g, formS x s = some g → f = g) ∧ Below w.heap.size w w' := by
  have HO := Lib.hid ho; clear ho
  by_cases h1 : x = 1
  · subst h1
    have HE := Lib.hid (show formS 1 s = some (foldS s) from rfl)
    go_enter Tryz.func166, Tryz.ntmps166
    go_wp2_with fail
    refine (fold_s s _ (by omega)).mono ?_
    rintro e w1 ⟨rfl, hb⟩
    have HB := Lib.hid hb; clear hb
    go_wp2_with fail
    go_ret2
    exact ⟨_, by rw [HE.out]; rfl, (fun g hg => by rw [HE.out] at hg; exact Option.some.inj hg), HB.out⟩
  · by_cases h2 : x = 2
    · subst h2
      have HE := Lib.hid (show formS 2 s = some s from rfl)
      go_enter Tryz.func166, Tryz.ntmps166
      go_wp2_with fail
      go_ret2
      exact ⟨_, by rw [HE.out]; rfl, (fun g hg => by rw [HE.out] at hg; exact Option.some.inj hg), Below.refl _ _⟩
    · by_cases h3 : x = 3
      · subst h3
        have HE := Lib.hid (show formS 3 s = (numS s).map fun n => ofL (Lib.itoa n) from rfl)
        go_enter Tryz.func166, Tryz.ntmps166
        go_wp2_with fail
        refine (number_s s _ hs HO.out).mono ?_
        rintro e w1 ⟨n, n1, n2, rfl, hn, hb⟩
        have HO1 := Lib.hid (HO.out.below hb)
        have HB := Lib.hid hb; clear hb
        go_wp2_with fail
        refine (int_s n _ n1 n2 HO1.out).mono ?_
        rintro e w2 ⟨rfl, hb⟩
        have HB2 := Lib.hid (HB.out.trans (hb.mono HB.out.size)); clear hb
        go_wp2_with fail
        go_ret2
        refine ⟨_, by rw [HE.out, Option.isSome_map]; rfl, (fun g hg => ?_), HB2.out⟩
        rw [HE.out] at hg
        cases e : numS s with
        | none => rw [e] at hg; cases hg
        | some m => rw [e] at hg; rw [hn m e]; exact Option.some.inj hg
      · by_cases h4 : x = 4
        · subst h4
          have HE := Lib.hid (show formS 4 s = if Nam.cleanE s = 0 then some (Nam.cleanV s) else none from rfl)
          go_enter Tryz.func166, Tryz.ntmps166
          go_wp2_with fail
          refine (Nam.clean0_s s _ hs).mono ?_
          rintro e w1 ⟨rfl, hb⟩
          have HB := Lib.hid hb; clear hb
          by_cases hc : Nam.cleanE s = 0
          · have HE2 := Lib.hid (show formS 4 s = some (Nam.cleanV s) from HE.out.trans (if_pos hc))
            rw [hc]
            go_wp2_with fail
            go_ret2
            exact ⟨_, by rw [HE2.out]; rfl, (fun g hg => by rw [HE2.out] at hg; exact Option.some.inj hg), HB.out⟩
          · have HE2 := Lib.hid (show formS 4 s = none from HE.out.trans (if_neg hc))
            obtain ⟨ec, hec⟩ : ∃ e, Nam.cleanE s = e := ⟨_, rfl⟩
            rw [hec] at hc ⊢
            clear hec
            have hq : (ec == 0) = false := beq_false_of_ne hc
            go_wp2_with fail
            go_ret2
            exact ⟨_, by rw [HE2.out]; rfl, (fun g hg => by rw [HE2.out] at hg; cases hg), HB.out⟩
        · have HE := Lib.hid (show formS x s = truthS s by unfold formS; rw [if_neg h1, if_neg h2, if_neg h3, if_neg h4])
          go_enter Tryz.func166, Tryz.ntmps166
          go_wp2_with fail
          refine (truth_s s _ (by omega)).mono ?_
          rintro e w1 ⟨rfl, hb⟩
          have HB := Lib.hid hb; clear hb
          go_wp2_with fail
          go_ret2
          exact ⟨_, by rw [HE.out]; rfl, (fun g hg => by rw [HE.out] at hg; rw [hg]; rfl), HB.out⟩
/-- the error of a value -/
def normE (x : Int) (s : ByteArray) : Int := if (normS x s).isSome then 0 else 8
/-- normal: the form, or ErrType -/
theorem normal_s (x : Int) (s : ByteArray) (w : World) (hs : s.size ≤ 1000000) (ho : IntOk w) (hf : ∀ f, formS x s = some f → f.size ≤ 1000000000) :
    Calls Tryz.prog 107 #[.int .i64 x, .string s] w fun e w' => e = .returned (.tuple #[.string ((normS x s).getD ⟨#[]⟩), .int .i64 (normE x s)]) ∧ Below w.heap.size w w' := by
  have HF := Lib.hid hf; clear hf
  have HE := Lib.hid (show normS x s = (formS x s).bind fun f => if cleanB s = true ∧ cleanB f = true then some f else none from rfl)
  go_enter Tryz.func107, Tryz.ntmps107
  go_wp2_with fail
  refine (normalForm_s x s _ hs ho).mono ?_
  rintro e w1 ⟨f, rfl, hg, hb⟩
  have HB := Lib.hid hb; clear hb
  cases hq : formS x s with
  | none =>
    have HE2 := Lib.hid (show normS x s = none from HE.out.trans (by rw [hq]; rfl))
    clear hg
    go_wp2_with fail
    go_ret2
    exact ⟨by unfold normE; rw [HE2.out]; rfl, HB.out⟩
  | some g =>
    obtain rfl := hg g hq
    have hfs := HF.out f hq
    obtain ⟨c1, hc1⟩ : ∃ b, cleanB s = b := ⟨_, rfl⟩
    obtain ⟨c2, hc2⟩ : ∃ b, cleanB f = b := ⟨_, rfl⟩
    have HE2 := Lib.hid (show normS x s = if c1 = true ∧ c2 = true then some f else none from HE.out.trans (by rw [hq]; show (if cleanB s = true ∧ cleanB f = true then some f else none) = _; rw [hc1, hc2]))
    have HC := Lib.hid (And.intro hc1 hc2)
    clear hc1 hc2 hg
    go_wp2_with fail
    refine (clean_s s _ (by omega)).mono ?_
    rintro e w2 ⟨rfl, rfl⟩
    rw [HC.out.1]
    cases c1
    · have HE3 := Lib.hid (show normS x s = none from HE2.out.trans (by simp))
      go_wp2_with fail
      go_ret2
      exact ⟨by unfold normE; rw [HE3.out]; rfl, HB.out⟩
    · go_wp2_with fail
      refine (clean_s f _ hfs).mono ?_
      rintro e w2 ⟨rfl, rfl⟩
      rw [HC.out.2]
      cases c2
      · have HE3 := Lib.hid (show normS x s = none from HE2.out.trans (by simp))
        go_wp2_with fail
        go_ret2
        exact ⟨by unfold normE; rw [HE3.out]; rfl, HB.out⟩
      · have HE3 := Lib.hid (show normS x s = some f from HE2.out.trans (by simp))
        go_wp2_with fail
        go_ret2
        exact ⟨by unfold normE; rw [HE3.out]; rfl, HB.out⟩
end Go.Proofs.YtmmdaegdkikkpaaGreatDoor
end

section
/-
  DERIVED: THE SHELF's CONTRACTS AT THIS DUMP, IN PLAIN WORDS (tools/lay-plain.mjs out of 'TryzShelfJSrc.lean', which tools/lay-shelf.mjs wrote): THE SAME DECLARATIONS UNDER THE SAME NAMES: 'import', 'namespace', 'open', 'def', 'theorem' AND NOTHING ELSE: no command of the shelf's: FOR A HAND-IN. Each laying: the table of numbers ('.._ren') and one theorem, a field a fact of the dump's own or the kernel's comparison; each contract: ONE APPLICATION.
-/
namespace Go.Proofs
open Go.Shelf
def Tryz.lays122_ren : Go.Shelf.Ren := ⟨fun | 122 => 169 | 215 => 236 | n => n, fun | 3 => 3 | 4 => 4 | n => n, fun | n => n⟩
theorem Tryz.lays122 : Go.Proofs.Lays.n122 Tryz.prog Tryz.lays122_ren := {
  mixed := by kernel_rfl
  f122 := Tryz.func169.trans (congrArg some (by kernel_rfl))
  f215 := Tryz.func236.trans (congrArg some (by kernel_rfl))
  t3 := Tryz.underlying3
  a3 := Tryz.isAgg3
  z3 := Tryz.sizeOf3
  v3 := Tryz.zeroValue3
  t4 := Tryz.underlying4
  a4 := Tryz.isAgg4
  z4 := Tryz.sizeOf4
  v4 := Tryz.zeroValue4 }
open Go.RowKit in
/-- cmp.Compare at int: "Compare returns -1 if x is less than y, 0 if x equals y, +1 if x is greater than y.": IT RETURNS 'Lib.compareInt x y'; the world is as it was. (LAID: no walk: one application.) -/
theorem Tryz.cmp_Compare_int (x y : Int) (w : World) :
    Calls Tryz.prog 169 #[.int .i64 x, .int .i64 y] w fun e w' => e = .returned (.int .i64 (Lib.compareInt x y)) ∧ w' = w := Any.cmp_Compare_int Tryz.lays122 x y w
end Go.Proofs
end

section
/-
  Contracts of schema's Normal, compareForms and Compare. Condition: names and values of at most 1000000 bytes.
-/
set_option maxRecDepth 100000
namespace Go.Proofs.YtmmdaegdkikkpaaGreatDoor
open Go.RowKit Go.PlainAid
namespace Nam
theorem fmt_size {l : List Pr} (h : fmtE l = 0) : (fmtV l).size ≤ 1000000 := by
  obtain ⟨h1, h2⟩ := fmtE_ok h
  have hb := barC_len 600 (l.map fmtC) (fun p hq => by
    obtain ⟨q, hq1, rfl⟩ := List.mem_map.1 hq
    have := prE_small (h1 q hq1)
    have := fmtC_len q
    omega)
  rw [List.length_map] at hb
  have : l.length * (600 + 1) ≤ 8 * 601 := Nat.mul_le_mul_right _ h2
  unfold fmtV
  rw [if_pos h, ofB_size]; omega
theorem clean_size (s : ByteArray) : (cleanV s).size ≤ 1000000 := by
  unfold cleanV
  by_cases h : parseE s = 0
  · rw [if_pos h]; exact fmt_size (fmt_parse_ok h)
  · rw [if_neg h]; exact Nat.zero_le _
end Nam
theorem formS_small {x : Int} {s f : ByteArray} (hs : s.size ≤ 1000000) (h : formS x s = some f) : f.size ≤ 1000000000 := by
  unfold formS at h
  split at h
  · obtain rfl := Option.some.inj h; have := foldS_size s; omega
  · split at h
    · obtain rfl := Option.some.inj h; omega
    · split at h
      · cases hn : numS s with
        | none => rw [hn] at h; cases h
        | some n =>
          rw [hn] at h
          obtain rfl := Option.some.inj h
          have hb : -9223372036854775808 ≤ n ∧ n ≤ 9223372036854775807 := by
            unfold numS at hn
            split at hn
            · split at hn
              · rename_i v hv
                obtain rfl := Option.some.inj hn
                exact Lib.atoiAll_bounds hv
              · cases hn
            · cases hn
          have := Lib.itoa_length_le n hb.1 hb.2
          have e : (ofL (Lib.itoa n)).size = (Lib.itoa n).length := by unfold ofL; exact Lib.size_mk _
          show (ofL (Lib.itoa n)).size ≤ 1000000000
          omega
      · split at h
        · split at h
          · obtain rfl := Option.some.inj h; have := Nam.clean_size s; omega
          · cases h
        · unfold truthS at h
          split at h
          · obtain rfl := Option.some.inj h; decide
          · split at h
            · obtain rfl := Option.some.inj h; decide
            · cases h
theorem normS_small {x : Int} {s f : ByteArray} (h : normS x s = some f) : f.size ≤ 256 := by
  unfold normS at h
  cases e : formS x s with
  | none => rw [e] at h; cases h
  | some g =>
    rw [e] at h
    simp only [Option.bind_some] at h
    split at h
    · rename_i hc
      obtain rfl := Option.some.inj h
      have := hc.2
      unfold cleanB at this
      simp only [Bool.and_eq_true, decide_eq_true_eq] at this
      exact this.1.1.1.2
    · cases h
theorem getD_small {x : Int} {s : ByteArray} : ((normS x s).getD ⟨#[]⟩).size ≤ 256 := by
  cases e : normS x s with
  | none => exact Nat.zero_le _
  | some f => exact normS_small e
/-- what Normal returns -/
def nrmE (T : List Ty) (n v : ByteArray) : Int := match tyOf T n with
  | none => 6
  | some t => normE t.syn v
def nrmV (T : List Ty) (n v : ByteArray) : ByteArray := match tyOf T n with
  | none => ⟨#[]⟩
  | some t => (normS t.syn v).getD ⟨#[]⟩
/-- the order of two normal forms -/
def cmpF (x : Int) (a b : ByteArray) : Int := if x = 3 then Lib.compareInt (readI a.data.toList).1 (readI b.data.toList).1 else if x = 4 then Nam.cmpN a b else cmpS a b
/-- what Compare returns -/
def cmpE (T : List Ty) (n a b : ByteArray) : Int := match tyOf T n with
  | none => 6
  | some t => if normE t.syn a ≠ 0 then normE t.syn a else normE t.syn b
def cmpV (T : List Ty) (n a b : ByteArray) : Int := match tyOf T n with
  | none => 0
  | some t => if normE t.syn a ≠ 0 ∨ normE t.syn b ≠ 0 then 0 else cmpF t.syn ((normS t.syn a).getD ⟨#[]⟩) ((normS t.syn b).getD ⟨#[]⟩)
set_option maxHeartbeats 4000000 in
theorem normalF_s (v : Value) (ts : List Ty) (cs : List Cl) (n s : ByteArray) (w : World) (h : SchV w v ts cs) (hn : n.size ≤ 1000000000) (hs : s.size ≤ 1000000) (ho : IntOk w) :
    Calls Tryz.prog 47 #[v, .string n, .string s] w fun e w' => e = .returned (.tuple #[.string (nrmV (soundT ts cs) n s), .int .i64 (nrmE (soundT ts cs) n s)]) ∧ Below w.heap.size w w' := by
  have h' := h
  obtain ⟨ao, k, cap, bo, m, dap, rfl, _⟩ := h'
  have hb0 : Below w.heap.size w (w.alloc (.cells #[.slice ao k cap, .slice bo m dap] 25)) := (Below.refl _ _).alloc (Nat.le_refl _) _
  have HB0 := Lib.hid hb0
  have HC := Lib.hid (typeF_s _ ts cs n _ (h.below hb0) hn)
  have HO := Lib.hid (ho.below hb0)
  clear h hb0 ho
  go_enter Tryz.func47, Tryz.ntmps47
  go_wp2_with fail
  refine HC.out.mono ?_
  rintro e w1 ⟨rfl, hb⟩
  have hsz1 : w.heap.size < w1.heap.size := by have := hb.size; simp at this; omega
  have HB1 := Lib.hid (HB0.out.trans (hb.mono (by simp)))
  have HO1 := Lib.hid (HO.out.below hb)
  clear hb HC HB0 HO
  unfold tyV
  cases ht : tyOf (soundT ts cs) n with
  | none =>
    have HE := Lib.hid (show nrmV (soundT ts cs) n s = ⟨#[]⟩ ∧ nrmE (soundT ts cs) n s = 6 by unfold nrmV nrmE; rw [ht]; exact ⟨rfl, rfl⟩)
    clear ht
    dsimp only [Option.getD, Option.isSome, zeroTy]
    go_wp2_with fail
    go_ret2
    exact ⟨by rw [HE.out.1, HE.out.2]; rfl, HB1.out.alloc (by omega) _⟩
  | some t =>
    have HE := Lib.hid (show nrmV (soundT ts cs) n s = (normS t.syn s).getD ⟨#[]⟩ ∧ nrmE (soundT ts cs) n s = normE t.syn s by unfold nrmV nrmE; rw [ht]; exact ⟨rfl, rfl⟩)
    clear ht
    dsimp only [Option.getD, Option.isSome]
    have hal := (Below.refl w1.heap.size w1).alloc (Nat.le_refl _) (.cells #[.string t.name, .int .i64 t.syn, .bool t.single] 62)
    have HC2 := Lib.hid (normal_s t.syn s _ hs (HO1.out.below hal) (fun f hf => formS_small hs hf))
    have HAL := Lib.hid (HB1.out.trans (hal.mono (Nat.le_of_lt hsz1)))
    clear hal
    go_wp2_with fail
    refine HC2.out.mono ?_
    rintro e w2 ⟨rfl, hb⟩
    have HB2 := Lib.hid (HAL.out.trans (hb.mono HAL.out.size))
    clear hb
    go_wp2_with fail
    go_ret2
    exact ⟨by rw [HE.out.1, HE.out.2]; rfl, HB2.out⟩
set_option maxHeartbeats 4000000 in
theorem cmpF_s (x : Int) (a b : ByteArray) (w : World) (ha : a.size ≤ 1000000) (hb : b.size ≤ 1000000) (ho : IntOk w) :
    Calls Tryz.prog 108 #[.int .i64 x, .string a, .string b] w fun e w' => e = .returned (.int .i64 (cmpF x a b)) ∧ Below w.heap.size w w' := by
  have HO := Lib.hid ho; clear ho
  by_cases h3 : x = 3
  · subst h3
    have HE := Lib.hid (show cmpF 3 a b = Lib.compareInt (readI a.data.toList).1 (readI b.data.toList).1 from rfl)
    go_enter Tryz.func108, Tryz.ntmps108
    go_wp2_with fail
    refine (readInt_s a _ (by omega) HO.out).mono ?_
    rintro e w1 ⟨rfl, hb1⟩
    have HO1 := Lib.hid (HO.out.below hb1)
    have HB1 := Lib.hid hb1; clear hb1
    go_wp2_with fail
    refine (readInt_s b _ (by omega) HO1.out).mono ?_
    rintro e w2 ⟨rfl, hb2⟩
    have HB2 := Lib.hid (HB1.out.trans (hb2.mono HB1.out.size)); clear hb2
    go_wp2_with fail
    refine (Tryz.cmp_Compare_int _ _ _).mono ?_
    rintro e w3 ⟨rfl, rfl⟩
    go_wp2_with fail
    go_ret
    exact ⟨by rw [HE.out]; rfl, HB2.out⟩
  · by_cases h4 : x = 4
    · subst h4
      have HE := Lib.hid (show cmpF 4 a b = Nam.cmpN a b from rfl)
      go_enter Tryz.func108, Tryz.ntmps108
      go_wp2_with fail
      refine (Nam.compare_s a b _ ha hb).mono ?_
      rintro e w1 ⟨rfl, hb1⟩
      have HB1 := Lib.hid hb1; clear hb1
      go_wp2_with fail
      go_ret
      exact ⟨by rw [HE.out]; rfl, HB1.out⟩
    · have HE := Lib.hid (show cmpF x a b = cmpS a b by unfold cmpF; rw [if_neg h3, if_neg h4])
      go_enter Tryz.func108, Tryz.ntmps108
      go_wp2_with fail
      refine (Tryz.strings_Compare a b _).mono ?_
      rintro e w1 ⟨rfl, rfl⟩
      go_wp2_with fail
      go_ret
      exact ⟨by rw [HE.out]; rfl, Below.refl _ _⟩
set_option maxHeartbeats 4000000 in
theorem compareF_s (v : Value) (ts : List Ty) (cs : List Cl) (n a b : ByteArray) (w : World) (h : SchV w v ts cs) (hn : n.size ≤ 1000000000) (ha : a.size ≤ 1000000) (hb : b.size ≤ 1000000) (ho : IntOk w) :
    Calls Tryz.prog 48 #[v, .string n, .string a, .string b] w fun e w' => e = .returned (.tuple #[.int .i64 (cmpV (soundT ts cs) n a b), .int .i64 (cmpE (soundT ts cs) n a b)]) ∧ Below w.heap.size w w' := by
  have h' := h
  obtain ⟨ao, k, cap, bo, m, dap, rfl, _⟩ := h'
  have hb0 : Below w.heap.size w (w.alloc (.cells #[.slice ao k cap, .slice bo m dap] 25)) := (Below.refl _ _).alloc (Nat.le_refl _) _
  have HB0 := Lib.hid hb0
  have HC := Lib.hid (typeF_s _ ts cs n _ (h.below hb0) hn)
  have HO := Lib.hid (ho.below hb0)
  clear h hb0 ho
  go_enter Tryz.func48, Tryz.ntmps48
  go_wp2_with fail
  refine HC.out.mono ?_
  rintro e w1 ⟨rfl, hb1⟩
  have hsz1 : w.heap.size < w1.heap.size := by have := hb1.size; simp at this; omega
  have HB1 := Lib.hid (HB0.out.trans (hb1.mono (by simp)))
  have HO1 := Lib.hid (HO.out.below hb1)
  clear hb1 HC HB0 HO
  unfold tyV
  cases ht : tyOf (soundT ts cs) n with
  | none =>
    have HE := Lib.hid (show cmpV (soundT ts cs) n a b = 0 ∧ cmpE (soundT ts cs) n a b = 6 by unfold cmpV cmpE; rw [ht]; exact ⟨rfl, rfl⟩)
    clear ht
    dsimp only [Option.getD, Option.isSome, zeroTy]
    go_wp2_with fail
    go_ret2
    exact ⟨by rw [HE.out.1, HE.out.2]; rfl, HB1.out.alloc (by omega) _⟩
  | some t =>
    have HE := Lib.hid (show cmpV (soundT ts cs) n a b = (if normE t.syn a ≠ 0 ∨ normE t.syn b ≠ 0 then 0 else cmpF t.syn ((normS t.syn a).getD ⟨#[]⟩) ((normS t.syn b).getD ⟨#[]⟩)) ∧ cmpE (soundT ts cs) n a b = if normE t.syn a ≠ 0 then normE t.syn a else normE t.syn b by unfold cmpV cmpE; rw [ht]; exact ⟨rfl, rfl⟩)
    clear ht
    dsimp only [Option.getD, Option.isSome]
    have hal := (Below.refl w1.heap.size w1).alloc (Nat.le_refl _) (.cells #[.string t.name, .int .i64 t.syn, .bool t.single] 62)
    have k0 : (w1.alloc (.cells #[.string t.name, .int .i64 t.syn, .bool t.single] 62)).cell? ⟨w1.heap.size, 1, none⟩ = some (.int .i64 t.syn) := by go_simp
    have HC2 := Lib.hid (normal_s t.syn a _ ha (HO1.out.below hal) (fun f hf => formS_small ha hf))
    have HO2 := Lib.hid (HO1.out.below hal)
    have HAL := Lib.hid (HB1.out.trans (hal.mono (Nat.le_of_lt hsz1)))
    have HK := Lib.hid k0
    clear hal k0
    go_wp2_with fail
    refine HC2.out.mono ?_
    rintro e w2 ⟨rfl, hb2⟩
    have k1 : w2.cell? ⟨w1.heap.size, 1, none⟩ = some (.int .i64 t.syn) := cell_later hb2 HK.out
    have HK1 := Lib.hid k1
    have HB2 := Lib.hid (HAL.out.trans (hb2.mono HAL.out.size))
    have HO3 := Lib.hid (HO2.out.below hb2)
    clear hb2 HC2 HK HAL HO2
    obtain ⟨ea, hea⟩ : ∃ e, normE t.syn a = e := ⟨_, rfl⟩
    obtain ⟨eb, heb⟩ : ∃ e, normE t.syn b = e := ⟨_, rfl⟩
    rw [hea]
    rw [hea, heb] at HE
    by_cases h1 : ea = 0
    · subst h1
      have HC3 := Lib.hid (normal_s t.syn b _ hb HO3.out (fun f hf => formS_small hb hf))
      rw [heb] at HC3
      obtain ⟨fa, hfa⟩ : ∃ f, (normS t.syn a).getD ⟨#[]⟩ = f := ⟨_, rfl⟩
      obtain ⟨fb, hfb⟩ : ∃ f, (normS t.syn b).getD ⟨#[]⟩ = f := ⟨_, rfl⟩
      have hza : fa.size ≤ 1000000 := by rw [← hfa]; exact Nat.le_trans getD_small (by decide)
      have hzb : fb.size ≤ 1000000 := by rw [← hfb]; exact Nat.le_trans getD_small (by decide)
      rw [hfa]
      rw [hfb] at HC3
      rw [hfa, hfb] at HE
      clear hea heb hfa hfb
      go_wp2_with fail
      refine HC3.out.mono ?_
      rintro e w3 ⟨rfl, hb3⟩
      have k2 : w3.cell? ⟨w1.heap.size, 1, none⟩ = some (.int .i64 t.syn) := cell_later hb3 HK1.out
      have HB3 := Lib.hid (HB2.out.trans (hb3.mono HB2.out.size))
      have HO4 := Lib.hid (HO3.out.below hb3)
      clear hb3 HC3 k1
      by_cases h2 : eb = 0
      · subst h2
        have HE2 := Lib.hid (show cmpV (soundT ts cs) n a b = cmpF t.syn fa fb ∧ cmpE (soundT ts cs) n a b = 0 from ⟨HE.out.1.trans (by simp), HE.out.2.trans (by simp)⟩)
        have HC4 := Lib.hid (cmpF_s t.syn fa fb w3 hza hzb HO4.out)
        go_wp2_with fail
        refine HC4.out.mono ?_
        rintro e w4 ⟨rfl, hb4⟩
        have HB4 := Lib.hid (HB3.out.trans (hb4.mono HB3.out.size))
        clear hb4
        go_wp2_with fail
        go_ret2
        exact ⟨by rw [HE2.out.1, HE2.out.2]; rfl, HB4.out⟩
      · have HE2 := Lib.hid (show cmpV (soundT ts cs) n a b = 0 ∧ cmpE (soundT ts cs) n a b = eb from ⟨HE.out.1.trans (by simp [h2]), HE.out.2.trans (by simp)⟩)
        go_wp2_with fail
        go_ret2
        exact ⟨by rw [HE2.out.1, HE2.out.2]; rfl, HB3.out⟩
    · have HE2 := Lib.hid (show cmpV (soundT ts cs) n a b = 0 ∧ cmpE (soundT ts cs) n a b = ea from ⟨HE.out.1.trans (by simp [h1]), HE.out.2.trans (by simp [h1])⟩)
      clear hea heb
      go_wp2_with fail
      go_ret2
      exact ⟨by rw [HE2.out.1, HE2.out.2]; rfl, HB2.out⟩
end Go.Proofs.YtmmdaegdkikkpaaGreatDoor
end

section
/-
  Contracts of schema's contains and of the table's checkAttr. Condition: names of at most 1000000000 bytes, values of at most 1000000 bytes.
-/
set_option maxRecDepth 100000
namespace Go.Proofs.YtmmdaegdkikkpaaGreatDoor
open Go.RowKit Go.PlainAid
theorem all_take {f : ByteArray → Bool} {ns : List ByteArray} {k : Nat} (h : (ns.take k).all f = true) (hk : k < ns.length) (h1 : f (partAt ns k) = true) : (ns.take (k + 1)).all f = true := by
  rw [take_snoc ns k hk, List.all_append, h]
  simpa using h1
theorem all_false {f : ByteArray → Bool} {ns : List ByteArray} {k : Nat} (hk : k < ns.length) (h1 : f (partAt ns k) = false) : ns.all f = false := by
  cases e : ns.all f
  · rfl
  · have := (List.all_eq_true.1 e) _ (part_mem ns k hk)
    rw [h1] at this; cases this
theorem contains_s (b m : Nat) (D : DataW Unit) (ks : List ByteArray) (ao : Option Addr) (n cap : Nat) (ns : List ByteArray) (w : World) (hG : SetM w b m D ks) (hs : StrsAt w ao n cap ns) (hz : ∀ s ∈ ns, s.size ≤ 1000000000) :
    Calls Tryz.prog 178 #[.map (some b), .slice ao n cap] w fun e w' => e = .returned (.bool (ns.all (memB ks))) ∧ w = w' := by
  obtain ⟨h1, h2, h3, h4⟩ := hs
  subst h1
  unfold maxLen at h3
  have H4 := Lib.hid h4; clear h4
  have HZ := Lib.hid hz; clear hz
  have HG := Lib.hid hG; clear hG
  go_enter Tryz.func178, Tryz.ntmps178
  go_wp2
  go_loopw [6, 9] (fun s6 i wr => ∃ k : Nat, k ≤ ns.length ∧ i = .int .i64 k ∧ Hid ((ns.take k).all (memB ks) = true) ∧ w = wr) (fun _ i _ => ns.length - (intOf i).toNat)
  case atStart => exact ⟨0, Nat.zero_le _, rfl, Lib.hid rfl, rfl⟩
  case round =>
    obtain ⟨k, hk, rfl, HA, rfl⟩ := hrel
    by_cases hlt : k < ns.length
    · obtain ⟨g, off, rfl, hs⟩ := H4.out (by omega)
      have hcell := hs.2 k hlt
      clear hs
      obtain ⟨p, hp⟩ : ∃ x, partAt ns k = x := ⟨_, rfl⟩
      have hps : p.size ≤ 1000000000 := by rw [← hp]; exact HZ.out _ (part_mem ns k hlt)
      have hlook := HG.out.look p (by unfold maxLen; omega)
      have d1 : (k : Int) < (ns.length : Int) := by omega
      rw [hp] at hcell
      cases ht : memB ks p
      · have HE := Lib.hid (show ns.all (memB ks) = false from all_false hlt (by rw [hp]; exact ht))
        rw [ht] at hlook
        clear ht hp
        go_wp2_with fail
        go_ret
        exact ⟨by rw [HE.out]; rfl, rfl⟩
      · have HA2 := Lib.hid (all_take HA.out hlt (by rw [hp]; exact ht))
        rw [ht] at hlook
        clear ht hp
        go_wp2_with fail
        go_roundw
        case rel => exact ⟨k + 1, by omega, by go_num, HA2, trivial⟩
        case measure => simp [intOf]; omega
    · have hk2 : k = ns.length := by omega
      have HE := Lib.hid (show ns.all (memB ks) = true by have := HA.out; rw [hk2, List.take_length] at this; exact this)
      have d1 : ¬ (k : Int) < (ns.length : Int) := by omega
      go_wp2_with fail
      go_ret
      exact ⟨by rw [HE.out]; rfl, rfl⟩
/-- the error of an attribute by itself -/
def valE (x : Int) (vs : List ByteArray) : Int := firstE (fun j => normE x (partAt vs j)) vs.length
def chkAt (T : List Ty) (a : At) : Int := match tyOf T a.1 with
  | none => 6
  | some t => if valE t.syn a.2 ≠ 0 then valE t.syn a.2 else if t.single = true ∧ 1 < a.2.length then 9 else 0
set_option maxHeartbeats 8000000 in
theorem checkAttr_s (mt mc : Option Nat) (ts : List Ty) (a : At) (vo : Option Addr) (vn vc : Nat) (w : World) (h : TMap w mt ts) (hv : StrsAt w vo vn vc a.2) (hn : a.1.size ≤ 1000000) (hz : SmallS a.2) (ho : IntOk w) :
    Calls Tryz.prog 110 #[.agg #[.map mt, .map mc], .agg #[.string a.1, .slice vo vn vc]] w fun e w' => e = .returned (.int .i64 (chkAt ts a)) ∧ Below w.heap.size w w' := by
  obtain ⟨nm, vs⟩ := a
  simp only at hv hn hz ⊢
  have hb0 : Below w.heap.size w ((w.alloc (.cells #[.map mt, .map mc] 130)).alloc (.cells #[.string nm, .slice vo vn vc] 58)) := ((Below.refl _ _).alloc (Nat.le_refl _) _).alloc (by simp) _
  have HB0 := Lib.hid hb0
  have HC := Lib.hid (typeOf_s mt mc ts nm _ (h.below hb0) (by omega))
  have HO := Lib.hid (ho.below hb0)
  have HV := Lib.hid hv
  have HZ := Lib.hid hz
  have hvl := hv.1
  have hvm := hv.2.2.1
  unfold maxLen at hvm
  have hvc := hv.2.1
  clear h hb0 ho hv hz
  go_enter Tryz.func110, Tryz.ntmps110
  go_wp2_with fail
  refine HC.out.mono ?_
  rintro e w1 ⟨rfl, hb⟩
  have hsz1 : w.heap.size + 1 < w1.heap.size := by have := hb.size; simp at this; omega
  have q0 : w1.cell? ⟨w.heap.size + 1, 0, none⟩ = some (.string nm) := cell_later hb (by go_simp)
  have q1 : w1.cell? ⟨w.heap.size + 1, 1, none⟩ = some (.slice vo vn vc) := cell_later hb (by go_simp)
  have HB1 := Lib.hid (HB0.out.trans (hb.mono (by simp; omega)))
  have HO1 := Lib.hid (HO.out.below hb)
  clear hb HC HB0 HO
  unfold tyV
  cases ht : tyOf ts nm with
  | none =>
    have HE := Lib.hid (show chkAt ts (nm, vs) = 6 by unfold chkAt; simp only; rw [ht])
    clear ht
    dsimp only [Option.getD, Option.isSome, zeroTy]
    go_wp2_with fail
    go_ret
    exact ⟨by rw [HE.out]; rfl, HB1.out.alloc (by omega) _⟩
  | some t =>
    have HE := Lib.hid (show chkAt ts (nm, vs) = if valE t.syn vs ≠ 0 then valE t.syn vs else if t.single = true ∧ 1 < vs.length then 9 else 0 by unfold chkAt; simp only; rw [ht])
    clear ht
    dsimp only [Option.getD, Option.isSome]
    obtain ⟨tn, syn, sg⟩ := t
    dsimp only at HE ⊢
    have hal := (Below.refl w1.heap.size w1).alloc (Nat.le_refl _) (.cells #[.string tn, .int .i64 syn, .bool sg] 62)
    have HI := Lib.hid (show (w1.alloc (.cells #[.string tn, .int .i64 syn, .bool sg] 62)).cell? ⟨w1.heap.size, 1, none⟩ = some (.int .i64 syn) ∧ (w1.alloc (.cells #[.string tn, .int .i64 syn, .bool sg] 62)).cell? ⟨w1.heap.size, 2, none⟩ = some (.bool sg) ∧ (w1.alloc (.cells #[.string tn, .int .i64 syn, .bool sg] 62)).cell? ⟨w.heap.size + 1, 1, none⟩ = some (.slice vo vn vc) from ⟨by go_simp, by go_simp, cell_later hal q1⟩)
    have HB2 := Lib.hid (HB1.out.trans (hal.mono (by omega)))
    have HO2 := Lib.hid (HO1.out.below hal)
    clear hal
    go_wp2_with fail
    go_loopw [8, 9, 10, 23] (fun s8 s9 s10 i wr => ∃ k : Nat, k ≤ vn ∧ i = .int .i64 k ∧ Hid (∀ q, q < k → normE syn (partAt vs q) = 0) ∧ Hid (wr.cell? ⟨w1.heap.size, 1, none⟩ = some (.int .i64 syn) ∧ wr.cell? ⟨w1.heap.size, 2, none⟩ = some (.bool sg) ∧ wr.cell? ⟨w.heap.size + 1, 1, none⟩ = some (.slice vo vn vc)) ∧ Hid (IntOk wr) ∧ Hid (Below w.heap.size w wr)) (fun _ _ _ i _ => vn - (intOf i).toNat)
    case atStart => exact ⟨0, Nat.zero_le _, rfl, Lib.hid (fun q hq => absurd hq (Nat.not_lt_zero _)), HI, HO2, HB2⟩
    case round =>
      clear HI HO2 HB2
      obtain ⟨k, hk, rfl, HA, HI, HO, HB⟩ := hrel
      obtain ⟨i0, i1, i2⟩ := HI.out
      by_cases hlt : k < vn
      · obtain ⟨b, off, rfl, hs⟩ := HV.out.2.2.2 (by omega)
        have hcell := (hs.below HB.out hs.1).2 k (by omega)
        clear hs
        have hps := HZ.out _ (part_mem vs k (by omega))
        obtain ⟨p, hp⟩ : ∃ x, partAt vs k = x := ⟨_, rfl⟩
        rw [hp] at hcell hps
        have HC := Lib.hid (normal_s syn p wr hps HO.out (fun f hf => formS_small hps hf))
        obtain ⟨fv, hfv⟩ : ∃ f, (normS syn p).getD ⟨#[]⟩ = f := ⟨_, rfl⟩
        obtain ⟨ev, hev⟩ : ∃ e, normE syn p = e := ⟨_, rfl⟩
        rw [hfv, hev] at HC
        have d1 : (k : Int) < (vn : Int) := by omega
        have HP := Lib.hid (And.intro hp hev)
        clear hp hfv hev
        go_wp2_with fail
        refine HC.out.mono ?_
        rintro e w2 ⟨rfl, hb⟩
        have HI2 := Lib.hid (And.intro (cell_later hb i0) (And.intro (cell_later hb i1) (cell_later hb i2)))
        have HO3 := Lib.hid (HO.out.below hb)
        have HB3 := Lib.hid (HB.out.trans (hb.mono HB.out.size))
        clear hb i0 i1 i2 HC
        by_cases he : ev = 0
        · subst he
          go_wp2_with fail
          go_roundw
          case rel =>
            refine ⟨k + 1, by omega, by go_num, Lib.hid fun q hq => ?_, HI2, HO3, HB3⟩
            rcases Nat.lt_or_ge q k with h | h
            · exact HA.out q h
            · obtain rfl : q = k := by omega
              rw [HP.out.1]; exact HP.out.2
          case measure => simp [intOf]; omega
        · have hve : valE syn vs = ev := by
            unfold valE
            rw [firstE_hit (k := k) HA.out (by rw [HP.out.1, HP.out.2]; exact he) (by omega), HP.out.1, HP.out.2]
          have HE2 := Lib.hid (show chkAt ts (nm, vs) = ev from HE.out.trans (by rw [hve, if_pos he]))
          clear hve
          go_wp2_with fail
          go_ret
          exact ⟨by rw [HE2.out]; rfl, HB3.out⟩
      · obtain rfl : k = vn := by omega
        have d1 : ¬ (k : Int) < (k : Int) := by omega
        have hve : valE syn vs = 0 := firstE_zero (fun j hj => HA.out j (by omega))
        have HE2 := Lib.hid (show chkAt ts (nm, vs) = if sg = true ∧ 1 < k then 9 else 0 from HE.out.trans (by rw [hve, hvl]; simp))
        clear hve
        cases sg
        · have HE3 := Lib.hid (show chkAt ts (nm, vs) = 0 from HE2.out.trans (by simp))
          go_wp2_with fail
          go_ret
          exact ⟨by rw [HE3.out]; rfl, HB.out⟩
        · by_cases h1 : 1 < k
          · have d2 : (1 : Int) < (k : Int) := by omega
            have HE3 := Lib.hid (show chkAt ts (nm, vs) = 9 from HE2.out.trans (by simp [h1]))
            go_wp2_with fail
            go_ret
            exact ⟨by rw [HE3.out]; rfl, HB.out⟩
          · have d2 : ¬ (1 : Int) < (k : Int) := by omega
            have HE3 := Lib.hid (show chkAt ts (nm, vs) = 0 from HE2.out.trans (by simp [h1]))
            go_wp2_with fail
            go_ret
            exact ⟨by rw [HE3.out]; rfl, HB.out⟩
end Go.Proofs.YtmmdaegdkikkpaaGreatDoor
end

section
/-
  Contracts of strings.Split at one byte and of schema's readList. Condition: words of at most 1000000 bytes.
-/
set_option maxRecDepth 100000
namespace Go.Proofs.YtmmdaegdkikkpaaGreatDoor
open Go.RowKit Go.PlainAid
def partsB (sep : UInt8) (s : ByteArray) : List ByteArray := Lib.splitB ⟨#[sep]⟩ 0 (Lib.countB s ⟨#[sep]⟩) s
theorem split_small (sep : ByteArray) : ∀ (k : Nat) (s x : ByteArray), x ∈ Lib.splitB sep 0 k s → x.size ≤ s.size
  | 0, s, x, h => by rw [List.mem_singleton.1 h]; exact Nat.le_refl _
  | k + 1, s, x, h => by
    unfold Lib.splitB at h
    split at h
    · rw [List.mem_singleton.1 h]; exact Nat.le_refl _
    · rcases List.mem_cons.1 h with h | h
      · rw [h, ByteArray.size_extract]; omega
      · have := split_small sep k _ x h
        rw [ByteArray.size_extract] at this; omega
theorem partsB_small {sep : UInt8} {s x : ByteArray} (h : x ∈ partsB sep s) : x.size ≤ s.size := split_small _ _ _ _ h
theorem partsB_len (sep : UInt8) (s : ByteArray) : (partsB sep s).length = Lib.countB s ⟨#[sep]⟩ + 1 := Lib.splitB_all ⟨#[sep]⟩ (Nat.le_refl 1) 0 _ s rfl
theorem partsB_le (sep : UInt8) (s : ByteArray) : (partsB sep s).length ≤ s.size + 1 := by
  rw [partsB_len]
  have := Lib.countB_le ⟨#[sep]⟩ (Nat.le_refl 1) s.size s (Nat.le_refl _)
  omega
theorem splitF_s (sep : UInt8) (s : ByteArray) (w : World) (hs : s.size ≤ 1000000) (hm : MaxOk w) :
    Calls Tryz.prog 122 #[.string s, .string ⟨#[sep]⟩] w fun e w' => e = .returned (.slice (some ⟨w.heap.size, 0, none⟩) (partsB sep s).length (partsB sep s).length) ∧ StrsAt w' (some ⟨w.heap.size, 0, none⟩) (partsB sep s).length (partsB sep s).length (partsB sep s) ∧ Below w.heap.size w w' := by
  obtain ⟨m, hm⟩ := hm
  refine (Tryz.strings_Split s ⟨#[sep]⟩ m w (by omega) hm (Nat.le_refl 1)).mono ?_
  rintro e w' ⟨rfl, rfl⟩
  have hle := partsB_le sep s
  refine ⟨by rw [partsB_len], ⟨rfl, Nat.le_refl _, by unfold maxLen; omega, fun hn => ⟨_, 0, rfl, by simp, fun j hj => ?_⟩⟩, (Below.refl _ _).alloc (Nat.le_refl _) _⟩
  have h : (w.alloc (.cells ((partsB sep s).map Value.string).toArray 9)).heap[w.heap.size]? = some (.cells ((partsB sep s).map Value.string).toArray 9 (0, 0)) := heap_alloc_new w _
  refine heap_cell (W := w.alloc (.cells ((partsB sep s).map Value.string).toArray 9)) h ?_
  rw [Nat.zero_add, List.getElem?_toArray, List.getElem?_map, List.getElem?_eq_getElem hj]
  unfold partAt
  rw [List.getD_eq_getElem?_getD, List.getElem?_eq_getElem hj]; rfl
/-- the names of a word -/
def rdListB (s : ByteArray) : Bool := decide (s = dashN) || (partsB 44 s).all nameB
def rdListV (s : ByteArray) : List ByteArray := if s = dashN then [] else if (partsB 44 s).all nameB = true then partsB 44 s else []
set_option maxHeartbeats 4000000 in
theorem readList_s (s : ByteArray) (w : World) (hs : s.size ≤ 1000000) (hm : MaxOk w) :
    Calls Tryz.prog 190 #[.string s] w fun e w' => ∃ ao n cap, e = .returned (.tuple #[.slice ao n cap, .bool (rdListB s)]) ∧ StrsAt w' ao n cap (rdListV s) ∧ FreshA w.heap.size ao ∧ Below w.heap.size w w' := by
  have hd := dash_eq s
  have hnil : ∀ W : World, StrsAt W none 0 0 [] := fun W => ⟨rfl, Nat.le_refl _, by unfold maxLen; omega, fun h => absurd h (Nat.lt_irrefl _)⟩
  have HNil := Lib.hid hnil
  clear hnil
  by_cases h : s = dashN
  · rw [decide_eq_true h] at hd
    have HE := Lib.hid (show rdListB s = true ∧ rdListV s = [] from ⟨by unfold rdListB; rw [decide_eq_true h]; rfl, if_pos h⟩)
    rw [HE.out.1, HE.out.2]
    clear h
    go_enter Tryz.func190, Tryz.ntmps190
    go_wp2_with fail
    go_ret2
    exact ⟨_, _, _, rfl, HNil.out _, (fun b off e => by cases e), Below.refl _ _⟩
  · rw [decide_eq_false h] at hd
    have HE := Lib.hid (show rdListB s = (partsB 44 s).all nameB ∧ rdListV s = if (partsB 44 s).all nameB = true then partsB 44 s else [] from ⟨by unfold rdListB; rw [decide_eq_false h]; rfl, if_neg h⟩)
    have HC := Lib.hid (splitF_s 44 s w hs hm)
    have hle := partsB_le 44 s
    have HZ := Lib.hid (fun x (hx : x ∈ partsB 44 s) => partsB_small hx)
    obtain ⟨ps, hps⟩ : ∃ ps, partsB 44 s = ps := ⟨_, rfl⟩
    rw [hps] at HE HC hle HZ
    clear h hps
    go_enter Tryz.func190, Tryz.ntmps190
    go_wp2_with fail
    refine HC.out.mono ?_
    rintro e w1 ⟨rfl, hS, hb⟩
    have HS := Lib.hid hS
    have HB := Lib.hid hb
    clear hS hb HC
    go_wp2_with fail
    go_loopw [6, 13] (fun s6 i wr => ∃ k : Nat, k ≤ ps.length ∧ i = .int .i64 k ∧ Hid ((ps.take k).all nameB = true) ∧ w1 = wr) (fun _ i _ => ps.length - (intOf i).toNat)
    case atStart => exact ⟨0, Nat.zero_le _, rfl, Lib.hid rfl, rfl⟩
    case round =>
      obtain ⟨k, hk, rfl, HA, rfl⟩ := hrel
      by_cases hlt : k < ps.length
      · obtain ⟨g, off, e, hg, hc⟩ := HS.out.2.2.2 (by omega)
        simp only [Option.some.injEq, Addr.mk.injEq, and_true] at e
        obtain ⟨rfl, rfl⟩ := e
        have hcell := hc k hlt
        rw [Nat.zero_add] at hcell
        clear hc
        obtain ⟨p, hp⟩ : ∃ x, partAt ps k = x := ⟨_, rfl⟩
        have hpz : p.size ≤ 1000000000 := by rw [← hp]; exact Nat.le_trans (HZ.out _ (part_mem ps k hlt)) (by omega)
        rw [hp] at hcell
        have d1 : (k : Int) < (ps.length : Int) := by omega
        obtain ⟨nb, hnb⟩ : ∃ b, nameB p = b := ⟨_, rfl⟩
        have HNb := Lib.hid (And.intro hp hnb)
        clear hp hnb
        go_wp2_with fail
        refine (name_s p _ hpz).mono ?_
        rintro e w2 ⟨rfl, rfl⟩
        rw [HNb.out.2]
        cases nb
        · have hf : ps.all nameB = false := all_false hlt (by rw [HNb.out.1]; exact HNb.out.2)
          have HE2 := Lib.hid (show rdListB s = false ∧ rdListV s = [] from ⟨HE.out.1.trans hf, HE.out.2.trans (by rw [hf]; rfl)⟩)
          clear hf
          go_wp2_with fail
          go_ret2
          exact ⟨none, 0, 0, by rw [HE2.out.1]; rfl, by rw [HE2.out.2]; exact HNil.out _, (fun b off e => by cases e), HB.out⟩
        · have HA2 := Lib.hid (all_take HA.out hlt (by rw [HNb.out.1]; exact HNb.out.2))
          go_wp2_with fail
          go_roundw
          case rel => exact ⟨k + 1, by omega, by go_num, HA2, trivial⟩
          case measure => simp [intOf]; omega
      · obtain rfl : k = ps.length := by omega
        have d1 : ¬ (ps.length : Int) < (ps.length : Int) := by omega
        have ht : ps.all nameB = true := by have := HA.out; rwa [List.take_length] at this
        have HE2 := Lib.hid (show rdListB s = true ∧ rdListV s = ps from ⟨HE.out.1.trans ht, HE.out.2.trans (by rw [ht]; rfl)⟩)
        clear ht
        go_wp2_with fail
        go_ret2
        exact ⟨_, _, _, by rw [HE2.out.1]; rfl, by rw [HE2.out.2]; exact HS.out, (fun b off e => by simp only [Option.some.injEq, Addr.mk.injEq, and_true] at e; omega), HB.out⟩
end Go.Proofs.YtmmdaegdkikkpaaGreatDoor
end
