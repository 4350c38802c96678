/-
  Contracts of Contains, Check, Text, Parse of both sides and of the laws' few. Condition: lists of at most 5000 strings of at most 1000000 bytes.
-/
import Derived.Test.YtminodinhbcgnaaDoorScoA
import Derived.Test.YtminodinhbcgnaaDoorDigStrs
import Derived.WalkMore
import Derived.OwnWalk
set_option maxRecDepth 100000
set_option linter.unusedVariables false
set_option linter.unusedSimpArgs false
set_option linter.unnecessarySimpa false
namespace Go.Proofs.YtminodinhbcgnaaDoor
open Go.RowKit Go.PlainAid

def SmS (l : List ByteArray) : Prop := l.length ≤ 5000 ∧ ∀ j, j < l.length → (partAt l j).size ≤ 1000000
theorem part_get {l : List ByteArray} {j : Nat} (h : j < l.length) : partAt l j = l[j] := by unfold partAt; rw [List.getD_eq_getElem?_getD, List.getElem?_eq_getElem h]; rfl
theorem memB_at {l : List ByteArray} {s : ByteArray} {k : Nat} (h : k < l.length) (e : partAt l k = s) : memB l s = true := memB_iff.2 (by rw [← e, part_get h]; exact List.getElem_mem h)
theorem memB_no {l : List ByteArray} {s : ByteArray} (h : ∀ j, j < l.length → partAt l j ≠ s) : memB l s = false := by
  cases hm : memB l s with
  | false => rfl
  | true =>
    obtain ⟨j, hj, e⟩ := List.getElem_of_mem (memB_iff.1 hm)
    exact absurd (by rw [part_get hj]; exact e) (h j hj)
/-- at most 20 strings of at most 200 bytes -/
def fewB (ps : List ByteArray) : Bool := decide (ps.length ≤ 20) && decide (∀ j, j < ps.length → (partAt ps j).size ≤ 200)
theorem few_true {ps : List ByteArray} (h : fewB ps = true) : ps.length ≤ 20 ∧ ∀ j, j < ps.length → (partAt ps j).size ≤ 200 := by
  unfold fewB at h
  rw [Bool.and_eq_true, decide_eq_true_iff, decide_eq_true_iff] at h
  exact h
set_option maxRecDepth 100000 in
set_option maxHeartbeats 2000000 in
theorem few_s (ao : Option Addr) (n cap : Nat) (ps : List ByteArray) (w : World) (h : StrsAt w ao n cap ps) :
    Calls Tryd.prog 10 #[.slice ao n cap] w fun e w' => e = .returned (.bool (fewB ps)) ∧ w = w' := by
  obtain ⟨h1, h2, h3, h4⟩ := h
  subst h1
  unfold maxLen at h3
  have H4 := Lib.hid h4; clear h4
  go_enter Tryd.func10, Tryd.ntmps10
  go_wp2
  go_loop [3] (fun i => ∃ k : Nat, k ≤ ps.length ∧ k ≤ 20 ∧ i = .int .i64 k ∧ Hid (∀ j, j < k → (partAt ps j).size ≤ 200)) (fun i => 20 - (intOf i).toNat)
  case atStart => exact ⟨0, Nat.zero_le _, Nat.zero_le _, rfl, Lib.hid (fun j hj => absurd hj (Nat.not_lt_zero _))⟩
  case round =>
    obtain ⟨k, hk, hk2, rfl, HA⟩ := hrel
    by_cases hlt : k < ps.length
    · by_cases h20 : k < 20
      · obtain ⟨b, off, rfl, hs⟩ := H4.out (by omega)
        have hcell := hs.2 k hlt
        clear hs
        obtain ⟨p, hpe⟩ : ∃ p, p = partAt ps k := ⟨_, rfl⟩
        rw [← hpe] at hcell
        have HP := Lib.hid hpe; clear hpe
        have d1 : (k : Int) < (ps.length : Int) := by omega
        have d2 : (k : Int) < 20 := by omega
        by_cases hb : p.size ≤ 200
        · go_wp2_with fail
          go_round
          case rel =>
            refine ⟨k + 1, by omega, by omega, by go_num, Lib.hid fun j hj => ?_⟩
            by_cases e : j = k
            · rw [e, ← HP.out]; exact hb
            · exact HA.out j (by omega)
          case measure => simp [intOf]; omega
        · have HE := Lib.hid (show fewB ps = false by
            cases e : fewB ps with
            | false => rfl
            | true => exact absurd ((few_true e).2 k hlt) (by rw [← HP.out]; exact hb))
          go_wp2_with fail
          go_ret
          exact ⟨by rw [HE.out]; rfl, rfl⟩
      · have d1 : (k : Int) < (ps.length : Int) := by omega
        have d2 : decide ((k : Int) < 20) = false := decide_eq_false (by omega)
        have d3 : decide ((ps.length : Int) ≤ 20) = false := decide_eq_false (by omega)
        have HE := Lib.hid (show fewB ps = false by
            cases e : fewB ps with
            | false => rfl
            | true => exact absurd (few_true e).1 (by omega))
        go_wp2_with fail
        go_ret
        exact ⟨by rw [HE.out]; rfl, rfl⟩
    · have d1 : decide ((k : Int) < (ps.length : Int)) = false := decide_eq_false (by omega)
      have d3 : decide ((ps.length : Int) ≤ 20) = true := decide_eq_true (by omega)
      have HE := Lib.hid (show fewB ps = true by
        unfold fewB
        rw [Bool.and_eq_true, decide_eq_true_iff, decide_eq_true_iff]
        exact ⟨by omega, fun j hj => HA.out j (by omega)⟩)
      go_wp2_with fail
      go_ret
      exact ⟨by rw [HE.out]; rfl, rfl⟩

def ixS (l : List ByteArray) (s : ByteArray) : Int := if memB l s = true then (l.findIdx (fun q => decide (q = s)) : Int) else -1
theorem ixS_at {l : List ByteArray} {s : ByteArray} {k : Nat} (h : k < l.length) (e : partAt l k = s) (hn : ∀ j, j < k → partAt l j ≠ s) : ixS l s = (k : Int) := by
  unfold ixS
  rw [if_pos (memB_at h e)]
  congr 1
  rw [List.findIdx_eq h]
  rw [part_get h] at e
  refine ⟨decide_eq_true e, fun j hj => decide_eq_false ?_⟩
  have := hn j hj
  rwa [part_get (by omega)] at this
theorem ixS_no {l : List ByteArray} {s : ByteArray} (h : memB l s = false) : ixS l s = -1 := by unfold ixS; rw [h]; rfl
theorem ixS_yes {l : List ByteArray} {s : ByteArray} (h : memB l s = true) : ∃ k : Nat, ixS l s = (k : Int) := by unfold ixS; rw [h]; exact ⟨_, rfl⟩
set_option maxHeartbeats 2000000 in
theorem index_k (ao : Option Addr) (n cap : Nat) (ps : List ByteArray) (s : ByteArray) (r : Int) (w : World) (h : StrsAt w ao n cap ps) (hr : ixS ps s = r) :
    Calls Tryd.prog 50 #[.slice ao n cap, .string s] w fun e w' => e = .returned (.int .i64 r) ∧ w = w' := by
  obtain ⟨h1, h2, h3, h4⟩ := h
  subst h1
  unfold maxLen at h3
  have H4 := Lib.hid h4; clear h4
  have HR := Lib.hid hr; clear hr
  go_enter Tryd.func50, Tryd.ntmps50
  go_wp2
  go_loop [8] (fun i => ∃ k : Nat, k ≤ ps.length ∧ i = .int .i64 k ∧ Hid (∀ j, j < k → partAt ps j ≠ s)) (fun i => ps.length - (intOf i).toNat)
  case atStart => exact ⟨0, Nat.zero_le _, rfl, Lib.hid (fun j hj => absurd hj (Nat.not_lt_zero _))⟩
  case round =>
    obtain ⟨k, hk, rfl, HA⟩ := hrel
    by_cases hlt : k < ps.length
    · obtain ⟨b, off, rfl, hs⟩ := H4.out (by omega)
      have hcell := hs.2 k hlt
      clear hs
      obtain ⟨p, hpe⟩ : ∃ p, p = partAt ps k := ⟨_, rfl⟩
      rw [← hpe] at hcell
      have HP := Lib.hid hpe; clear hpe
      have d1 : (k : Int) < (ps.length : Int) := by omega
      by_cases hps : p = s
      · have q1 : (s.toList == p.toList) = true := by rw [str_eq]; exact decide_eq_true hps.symm
        have HE := Lib.hid (show r = (k : Int) by rw [← HR.out]; exact ixS_at hlt (by rw [← HP.out]; exact hps) HA.out)
        clear hps
        go_wp2_with fail
        go_ret
        exact ⟨by rw [HE.out]; rfl, rfl⟩
      · have q1 : (s.toList == p.toList) = false := by rw [str_eq]; exact decide_eq_false fun e => hps e.symm
        have HN := Lib.hid hps
        clear hps
        go_wp2_with fail
        go_round
        case rel =>
          refine ⟨k + 1, by omega, by go_num, Lib.hid fun j hj => ?_⟩
          by_cases e : j = k
          · rw [e, ← HP.out]; exact HN.out
          · exact HA.out j (by omega)
        case measure => simp [intOf]; omega
    · have HE := Lib.hid (show r = -1 by rw [← HR.out]; exact ixS_no (memB_no fun j hj => HA.out j (by omega)))
      go_wp2_with fail
      go_ret
      exact ⟨by rw [HE.out]; rfl, rfl⟩
theorem contains_k (ao : Option Addr) (n cap : Nat) (ps : List ByteArray) (s : ByteArray) (r : Bool) (w : World) (h : StrsAt w ao n cap ps) (hr : memB ps s = r) :
    Calls Tryd.prog 33 #[.slice ao n cap, .string s] w fun e w' => e = .returned (.bool r) ∧ w = w' := by
  cases r with
  | true =>
    obtain ⟨k, hk⟩ := ixS_yes hr
    have HI := Lib.hid (index_k ao n cap ps s k w h hk)
    have d : (0 : Int) ≤ (k : Int) := by omega
    clear h hr hk
    go_enter Tryd.func33, Tryd.ntmps33
    go_wp2_with fail
    refine HI.out.mono ?_
    rintro e w' ⟨rfl, rfl⟩
    go_wp2_with fail
    go_ret
    exact ⟨rfl, rfl⟩
  | false =>
    have HI := Lib.hid (index_k ao n cap ps s (-1) w h (ixS_no hr))
    clear h hr
    go_enter Tryd.func33, Tryd.ntmps33
    go_wp2_with fail
    refine HI.out.mono ?_
    rintro e w' ⟨rfl, rfl⟩
    go_wp2_with fail
    go_ret
    exact ⟨rfl, rfl⟩
theorem strs_take {w : World} {b off n cap : Nat} {l : List ByteArray} (h : StrsAt w (some ⟨b, off, none⟩) n cap l) {k : Nat} (hk : k ≤ n) (hn : 0 < n) : StrsAt w (some ⟨b, off, none⟩) k cap (l.take k) := by
  obtain ⟨h1, h2, h3, h4⟩ := h
  refine ⟨by rw [List.length_take]; omega, by omega, h3, fun _ => ?_⟩
  obtain ⟨b', off', e, hi⟩ := h4 hn
  cases e
  refine ⟨b, off, rfl, hi.1, fun j hj => ?_⟩
  rw [List.length_take] at hj
  have := hi.2 j (by omega)
  rw [this]
  congr 2
  unfold partAt
  rw [List.getD_eq_getElem?_getD, List.getD_eq_getElem?_getD, List.getElem?_take_of_lt (by omega)]

/-! ### Check -/
set_option maxHeartbeats 4000000 in
theorem check_k (ao : Option Addr) (n cap : Nat) (l : List ByteArray) (z : Int) (w : World) (h : StrsAt w ao n cap l) (hs : SmS l) (ho : MaxOk w) (hz : chkS l = z) :
    Calls Tryd.prog 16 #[.slice ao n cap] w fun e w' => e = .returned (.int .i64 z) ∧ w = w' := by
  have H := Lib.hid h
  have HO := Lib.hid ho
  obtain ⟨h1, h2, h3, h4⟩ := h
  subst h1
  unfold maxLen at h3
  have H4 := Lib.hid h4; clear h4 ho
  have HS := Lib.hid hs.2; clear hs
  unfold chkS at hz
  by_cases h16 : 16 < l.length
  · have d1 : (16 : Int) < (l.length : Int) := by omega
    rw [if_pos h16] at hz
    have HZ := Lib.hid hz; clear hz
    go_enter Tryd.func16, Tryd.ntmps16
    go_wp2_with fail
    go_ret
    exact ⟨by rw [← HZ.out]; rfl, rfl⟩
  rw [if_neg h16] at hz
  have dm : ¬ (16 : Int) < (l.length : Int) := by omega
  have HZ := Lib.hid hz; clear hz
  go_enter Tryd.func16, Tryd.ntmps16
  go_wp2_with fail
  go_loop [10] (fun i => ∃ k : Nat, k ≤ l.length ∧ i = .int .i64 k ∧ Hid (firE (scI l) k = 0)) (fun i => l.length - (intOf i).toNat)
  case atStart => exact ⟨0, Nat.zero_le _, rfl, Lib.hid rfl⟩
  case round =>
    obtain ⟨k, hk, rfl, HA⟩ := hrel
    by_cases hlt : k < l.length
    · obtain ⟨b, off, rfl, hs⟩ := H4.out (by omega)
      have hcell := hs.2 k hlt
      have HT := Lib.hid (strs_take H.out (show k ≤ l.length by omega) (by omega))
      clear hs
      obtain ⟨p, hpe⟩ : ∃ p, p = partAt l k := ⟨_, rfl⟩
      rw [← hpe] at hcell
      have HP := Lib.hid hpe
      have hsz : p.size ≤ 1000000 := by rw [hpe]; exact HS.out k hlt
      clear hpe
      have e1 : (k : Int) < (l.length : Int) := by omega
      obtain ⟨vb, hv⟩ : ∃ x, vdB p = x := ⟨_, rfl⟩
      have HW := Lib.hid (valid_k p vb w hsz HO.out hv)
      cases vb with
      | false =>
        have HE := Lib.hid (show z = 5 by
          rw [← HZ.out]
          refine firE_hit HA.out ?_ (by decide) hlt
          unfold scI
          rw [← HP.out, if_pos hv])
        clear hv hsz
        go_wp2_with fail
        refine HW.out.mono ?_
        rintro e w' ⟨rfl, rfl⟩
        go_wp2_with fail
        go_ret
        exact ⟨by rw [HE.out]; rfl, rfl⟩
      | true =>
        obtain ⟨mb, hm⟩ : ∃ x, memB (l.take k) p = x := ⟨_, rfl⟩
        have HM := Lib.hid (contains_k _ _ _ _ p mb w HT.out hm)
        cases mb with
        | true =>
          have HE := Lib.hid (show z = 7 by
            rw [← HZ.out]
            refine firE_hit HA.out ?_ (by decide) hlt
            unfold scI
            rw [← HP.out, if_neg (by rw [hv]; simp), if_pos hm])
          clear hv hsz hm
          go_wp2_with fail
          refine HW.out.mono ?_
          rintro e w' ⟨rfl, rfl⟩
          go_wp2_with fail
          refine HM.out.mono ?_
          rintro e w' ⟨rfl, rfl⟩
          go_wp2_with fail
          go_ret
          exact ⟨by rw [HE.out]; rfl, rfl⟩
        | false =>
          have HN := Lib.hid (show scI l k = 0 by
            unfold scI
            rw [← HP.out, if_neg (by rw [hv]; simp), if_neg (by rw [hm]; simp)])
          clear hv hsz hm
          go_wp2_with fail
          refine HW.out.mono ?_
          rintro e w' ⟨rfl, rfl⟩
          go_wp2_with fail
          refine HM.out.mono ?_
          rintro e w' ⟨rfl, rfl⟩
          go_wp2_with fail
          go_round
          case rel => exact ⟨k + 1, by omega, by go_num, Lib.hid (firE_next HA.out HN.out)⟩
          case measure => simp [intOf]; omega
    · have HE := Lib.hid (show z = 0 by rw [← HZ.out]; obtain rfl : k = l.length := by omega
                                        exact HA.out)
      have e1 : ¬ (k : Int) < (l.length : Int) := by omega
      go_wp2_with fail
      go_ret
      exact ⟨by rw [HE.out]; rfl, rfl⟩
set_option maxHeartbeats 4000000 in
theorem rcheck_k (ao : Option Addr) (n cap : Nat) (l : List ByteArray) (z : Int) (w : World) (h : StrsAt w ao n cap l) (hs : SmS l) (hz : chkS l = z) :
    Calls Tryd.prog 17 #[.slice ao n cap] w fun e w' => e = .returned (.int .i64 z) ∧ Below w.heap.size w w' := by
  obtain ⟨h1, h2, h3, h4⟩ := h
  subst h1
  unfold maxLen at h3
  have H4 := Lib.hid h4; clear h4
  have HS := Lib.hid hs.2; clear hs
  unfold chkS at hz
  by_cases h16 : 16 < l.length
  · have d1 : (16 : Int) < (l.length : Int) := by omega
    rw [if_pos h16] at hz
    have HZ := Lib.hid hz; clear hz
    go_enter Tryd.func17, Tryd.ntmps17
    go_wp2_with fail
    go_ret
    exact ⟨by rw [← HZ.out]; rfl, Below.refl _ _⟩
  rw [if_neg h16] at hz
  have dm : ¬ (16 : Int) < (l.length : Int) := by omega
  have HZ := Lib.hid hz; clear hz
  go_enter Tryd.func17, Tryd.ntmps17
  go_wp2_with fail
  go_loopw [3] (fun i wr => ∃ k : Nat, k ≤ l.length ∧ i = .int .i64 k ∧ Hid (firE (scI l) k = 0) ∧ Hid (Below w.heap.size w wr)) (fun i _ => l.length - (intOf i).toNat)
  case atStart => exact ⟨0, Nat.zero_le _, rfl, Lib.hid rfl, Lib.hid (Below.refl _ _)⟩
  case round =>
    obtain ⟨k, hk, rfl, HA, HB⟩ := hrel
    by_cases hlt : k < l.length
    · obtain ⟨b, off, rfl, hs⟩ := H4.out (by omega)
      have HS2 := Lib.hid (fun W (hW : Below w.heap.size w W) => (hs.below hW hs.1).2)
      have hcell := HS2.out _ HB.out k hlt
      clear hs
      obtain ⟨p, hpe⟩ : ∃ p, p = partAt l k := ⟨_, rfl⟩
      rw [← hpe] at hcell
      have HP := Lib.hid hpe
      have hsz : p.size ≤ 1000000 := by rw [hpe]; exact HS.out k hlt
      clear hpe
      have e1 : (k : Int) < (l.length : Int) := by omega
      obtain ⟨vb, hv⟩ : ∃ x, vdB p = x := ⟨_, rfl⟩
      have HW := Lib.hid (fun W => rvalid_k p vb W hsz hv)
      cases vb with
      | false =>
        have HE := Lib.hid (show z = 5 by
          rw [← HZ.out]
          refine firE_hit HA.out ?_ (by decide) hlt
          unfold scI
          rw [← HP.out, if_pos hv])
        clear hv hsz
        go_wp2_with fail
        refine (HW.out _).mono ?_
        rintro e w' ⟨rfl, rfl⟩
        go_wp2_with fail
        go_ret
        exact ⟨by rw [HE.out]; rfl, HB.out⟩
      | true =>
        have HV := Lib.hid hv
        clear hv hsz
        go_wp2_with fail
        refine (HW.out _).mono ?_
        rintro e w' ⟨rfl, rfl⟩
        go_wp2_with fail
        go_loopw [4] (fun i wr => ∃ m : Nat, m ≤ k ∧ i = .int .i64 m ∧ Hid (∀ j, j < m → partAt l j ≠ p) ∧ Hid (Below w.heap.size w wr)) (fun i _ => k - (intOf i).toNat)
        case atStart => exact ⟨0, Nat.zero_le _, rfl, Lib.hid (fun j hj => absurd hj (Nat.not_lt_zero _)), HB⟩
        case round =>
          clear hcell
          obtain ⟨m, hm, rfl, HN, HB2⟩ := hrel
          by_cases hmk : m < k
          · have hcell := HS2.out _ HB2.out k hlt
            have hcell2 := HS2.out _ HB2.out m (by omega)
            rw [← HP.out] at hcell
            obtain ⟨q, hqe⟩ : ∃ q, q = partAt l m := ⟨_, rfl⟩
            rw [← hqe] at hcell2
            have HQ := Lib.hid hqe; clear hqe
            have k1 : (0 : Int) ≤ (k : Int) := by omega
            have k2 : (0 : Int) ≤ (m : Int) := by omega
            have k3 : (m : Int) < (k : Int) := by omega
            have k4 : (m : Int) < (l.length : Int) := by omega
            by_cases hpq : q = p
            · have hq : (q.toList == p.toList) = true := by rw [str_eq]; exact decide_eq_true hpq
              have HE := Lib.hid (show z = 7 by
                rw [← HZ.out]
                refine firE_hit HA.out ?_ (by decide) hlt
                unfold scI
                rw [← HP.out, if_neg (by rw [HV.out]; simp), if_pos (memB_iff.2 (by
                  rw [← hpq, HQ.out]
                  have h2 : partAt (l.take k) m = partAt l m := by
                    unfold partAt
                    rw [List.getD_eq_getElem?_getD, List.getD_eq_getElem?_getD, List.getElem?_take_of_lt hmk]
                  rw [← h2]
                  exact part_mem _ _ (by rw [List.length_take]; omega)))])
              clear hpq
              go_wp2_with fail
              go_region_held3 (fun w' => w'.cell? ⟨b, off + m, none⟩ = some (.string q) ∧ w'.cell? ⟨b, off + k, none⟩ = some (.string p)) (go_keep) (fail)
              go_wp2_with fail
              go_ret
              exact ⟨by rw [HE.out]; rfl, HB2.out.drew⟩
            · have hq : (q.toList == p.toList) = false := by rw [str_eq]; exact decide_eq_false hpq
              have HNE := Lib.hid hpq
              clear hpq
              go_wp2_with fail
              go_region_held3 (fun w' => w'.cell? ⟨b, off + m, none⟩ = some (.string q) ∧ w'.cell? ⟨b, off + k, none⟩ = some (.string p)) (go_keep) (fail)
              go_wp2_with fail
              go_roundw
              case rel =>
                refine ⟨m + 1, by omega, by go_num, Lib.hid fun j hj => ?_, Lib.hid HB2.out.drew⟩
                by_cases e : j = m
                · rw [e, ← HQ.out]; exact HNE.out
                · exact HN.out j (by omega)
              case measure => simp [intOf]; omega
          · have hmk2 : m = k := by omega
            have HX := Lib.hid (show scI l k = 0 by
              unfold scI
              rw [← HP.out, if_neg (by rw [HV.out]; simp), if_neg (by
                rw [memB_no]
                · simp
                · intro j hj
                  rw [List.length_take] at hj
                  have h2 : partAt (l.take k) j = partAt l j := by
                    unfold partAt
                    rw [List.getD_eq_getElem?_getD, List.getD_eq_getElem?_getD, List.getElem?_take_of_lt (by omega)]
                  rw [h2]
                  exact HN.out j (by omega))])
            clear hmk2
            have k3 : ¬ (m : Int) < (k : Int) := by omega
            go_wp2_with fail
            go_roundw
            case rel => exact ⟨k + 1, by omega, by go_num, Lib.hid (firE_next HA.out HX.out), HB2⟩
            case measure => simp [intOf]; omega
    · have HE := Lib.hid (show z = 0 by rw [← HZ.out]; obtain rfl : k = l.length := by omega
                                        exact HA.out)
      have e1 : ¬ (k : Int) < (l.length : Int) := by omega
      go_wp2_with fail
      go_ret
      exact ⟨by rw [HE.out]; rfl, HB.out⟩

end Go.Proofs.YtminodinhbcgnaaDoor
