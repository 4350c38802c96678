/-
  Contracts of the specification's Check and Pick. Condition: as Sorted's.
-/
import Derived.Test.YtahpocpagidahaaAttR6
set_option linter.unusedVariables false
set_option linter.unusedSimpArgs false
set_option linter.unnecessarySimpa false
namespace Go.Proofs.Ytahpocpagidahaa
open Go.RowKit Go.PlainAid

set_option maxRecDepth 100000 in
set_option maxHeartbeats 4000000 in
theorem rcheck_s (ao : Option Addr) (n cap : Nat) (l : List At) (w : World) (h : AttrsAt w ao n cap l) (hS : SmallA l) :
    Calls Try.prog 13 #[.slice ao n cap] w fun e w' => e = .returned (.int .i64 (chkA l)) ∧ Below w.heap.size w w' := by
  have HA0 := Lib.hid h
  obtain ⟨h1, h2, h3, h4⟩ := h
  subst h1
  unfold maxLen at h3
  have H4 := Lib.hid h4; clear h4
  have HS := Lib.hid hS; clear hS
  by_cases h32 : 32 < l.length
  · have HR := Lib.hid (show chkA l = 3 from if_pos h32)
    have d0 : decide ((32 : Int) < (l.length : Int)) = true := decide_eq_true (by omega)
    go_enter Try.func13, Try.ntmps13
    go_wp2_with fail
    go_ret
    exact ⟨by rw [HR.out]; rfl, Below.refl _ _⟩
  · have HR := Lib.hid (show chkA l = firstE (errA l) l.length from if_neg h32)
    have d0 : decide ((32 : Int) < (l.length : Int)) = false := decide_eq_false (by omega)
    go_enter Try.func13, Try.ntmps13
    go_wp2
    clear d0
    go_loopw [3, 4] (fun i s4 wr => ∃ j : Nat, j ≤ l.length ∧ i = .int .i64 j ∧ Hid (∀ q, q < j → errA l q = 0) ∧ Hid (Below w.heap.size w wr)) (fun i _ _ => l.length - (intOf i).toNat)
    case atStart => exact ⟨0, Nat.zero_le _, rfl, Lib.hid (fun q hq => absurd hq (Nat.not_lt_zero _)), Lib.hid (Below.refl _ _)⟩
    case round =>
      obtain ⟨j, hj, rfl, HA, HB⟩ := hrel
      by_cases hlt : j < l.length
      · obtain ⟨b, off, rfl, hblt, hat⟩ := H4.out (by omega)
        obtain ⟨c0, vo, vn, vc, c1, hv⟩ := hat j hlt
        have hblt2 : b < wr.heap.size := Nat.lt_of_lt_of_le hblt HB.out.size
        have c0 := cell_later HB.out c0
        have c1 := cell_later HB.out c1
        have HV := Lib.hid (hv.below HB.out)
        obtain ⟨nm, hnm⟩ : ∃ x, (atD l j).1 = x := ⟨_, rfl⟩
        obtain ⟨vs, hvs⟩ : ∃ x, (atD l j).2 = x := ⟨_, rfl⟩
        have hsz := HS.out _ (at_mem l j hlt)
        have HE := Lib.hid (show errA l j = if nameB nm = false then 5 else if twiceB l j = true then 7 else if vs.length = 0 then 6 else if 16 < vs.length then 3 else chkV vs [] by rw [← hnm, ← hvs]; rfl)
        have HF := Lib.hid (fun (e : errA l j ≠ 0) => firstE_hit (f := errA l) HA.out e hlt)
        rw [hnm] at c0 hsz
        rw [hvs] at hsz HV
        have hvl : vs.length = vn := HV.out.1
        have hns := hsz.1
        have HVS := Lib.hid hsz.2
        clear hnm hvs hsz hv hat
        have HTW := Lib.hid (twice_s (some ⟨b, off, none⟩) l.length cap j l wr (HA0.out.below HB.out) hlt HS.out)
        have d1 : (j : Int) < (l.length : Int) := by omega
        cases hnb : nameB nm with
        | false =>
          have HL := Lib.hid (show chkA l = 5 by
            rw [if_pos hnb] at HE
            rw [HR.out, HF.out (by rw [HE.out]; decide), HE.out])
          go_wp2_with (go_at_call 39; refine (rName_s nm _ (by omega)).mono ?_; rintro e w' ⟨rfl, rfl⟩; rw [hnb])
          go_ret
          exact ⟨by rw [HL.out]; rfl, HB.out⟩
        | true =>
          rw [if_neg (by rw [hnb]; simp)] at HE
          have HNB := Lib.hid hnb
          clear hnb
          obtain ⟨t, ht⟩ : ∃ x, twiceB l j = x := ⟨_, rfl⟩
          rw [ht] at HE HTW
          clear ht
          go_wp2_with (go_at_call 39; refine (rName_s nm _ (by omega)).mono ?_; rintro e w' ⟨rfl, rfl⟩; rw [HNB.out])
          refine HTW.out.mono ?_
          rintro e w1 ⟨rfl, hb⟩
          have c1 := (hb.cell (p := ⟨b, off + j * 2 + 1, none⟩) hblt2).trans c1
          have HB1 := Lib.hid (HB.out.trans (hb.mono HB.out.size))
          have HV1 := Lib.hid (HV.out.below hb)
          clear hb HTW c0
          cases t with
          | true =>
            have HL := Lib.hid (show chkA l = 7 by
              rw [if_pos rfl] at HE
              rw [HR.out, HF.out (by rw [HE.out]; decide), HE.out])
            go_wp2_with fail
            go_ret
            exact ⟨by rw [HL.out]; rfl, HB1.out⟩
          | false =>
            rw [if_neg (by simp)] at HE
            by_cases hz : vn = 0
            · have HL := Lib.hid (show chkA l = 6 by
                rw [if_pos (by omega)] at HE
                rw [HR.out, HF.out (by rw [HE.out]; decide), HE.out])
              have q0 : ((vn : Int) == 0) = true := by simpa using hz
              clear hz hvl
              go_wp2_with fail
              go_ret
              exact ⟨by rw [HL.out]; rfl, HB1.out⟩
            · rw [if_neg (by omega)] at HE
              have q0 : ((vn : Int) == 0) = false := by simpa using hz
              by_cases h16 : 16 < vn
              · have HL := Lib.hid (show chkA l = 3 by
                  rw [if_pos (by omega)] at HE
                  rw [HR.out, HF.out (by rw [HE.out]; decide), HE.out])
                have d2 : decide ((16 : Int) < (vn : Int)) = true := decide_eq_true (by omega)
                go_wp2_with fail
                go_ret
                exact ⟨by rw [HL.out]; rfl, HB1.out⟩
              · rw [if_neg (by omega)] at HE
                have d2 : decide ((16 : Int) < (vn : Int)) = false := decide_eq_false (by omega)
                have HC := Lib.hid (rcheckV_s vo none vn 0 vc 0 vs [] w1 HV1.out (strs_nil w1) HVS.out)
                obtain ⟨c, hc⟩ : ∃ x, chkV vs [] = x := ⟨_, rfl⟩
                rw [hc] at HC HE
                clear hc
                go_wp2_with fail
                refine HC.out.mono ?_
                rintro e w2 ⟨rfl, hb⟩
                have HB2 := Lib.hid (HB1.out.trans (hb.mono HB1.out.size))
                clear hb HC
                by_cases h0 : c = 0
                · subst h0
                  go_wp2_with fail
                  go_roundw
                  case rel =>
                    refine ⟨j + 1, by omega, by go_num, Lib.hid fun q hq => ?_, HB2⟩
                    by_cases e : q = j
                    · rw [e]; exact HE.out
                    · exact HA.out q (by omega)
                  case measure => simp [intOf]; omega
                · have HL := Lib.hid (show chkA l = c by rw [HR.out, HF.out (by rw [HE.out]; exact h0), HE.out])
                  have q1 : (c != 0) = true := by simpa using h0
                  go_wp2_with fail
                  go_ret
                  exact ⟨by rw [HL.out]; rfl, HB2.out⟩
      · obtain rfl : l.length = j := by omega
        have HL := Lib.hid (show chkA l = 0 by rw [HR.out]; exact firstE_zero HA.out)
        go_wp2_with fail
        go_ret
        exact ⟨by rw [HL.out]; rfl, HB.out⟩

/-- the attribute a is among those wanted -/
def wantB (ns : List ByteArray) (a : ByteArray) : Bool := ns.isEmpty || ns.any fun x => decide (lowS x = a)
def pickL (l : List At) (ns : List ByteArray) : List At := (nf l).filter fun a => wantB ns a.1
def wantAt (ns : List ByteArray) (a : ByteArray) (k : Nat) : Bool := ns.isEmpty || (ns.take k).any fun x => decide (lowS x = a)
theorem want_snoc {ns : List ByteArray} {a : ByteArray} {k : Nat} (h : k < ns.length) : wantAt ns a (k + 1) = (wantAt ns a k || decide (lowS (partAt ns k) = a)) := by
  unfold wantAt
  rw [take_snoc ns k h, List.any_append]
  simp [Bool.or_assoc]
theorem want_end (ns : List ByteArray) (a : ByteArray) : wantAt ns a ns.length = wantB ns a := by unfold wantAt wantB; rw [List.take_length]
theorem want_zero (ns : List ByteArray) (a : ByteArray) : wantAt ns a 0 = decide (ns.length = 0) := by
  unfold wantAt
  cases ns <;> simp
theorem few_pick {l : List At} (h : Few l) (ns : List ByteArray) : Few (pickL l ns) :=
  ⟨fun a ha => (few_nf h).small a (List.mem_filter.1 ha).1, Nat.le_trans (sumV_filter _ _) (few_nf h).vals, Nat.le_trans (List.length_filter_le _ _) (few_nf h).len⟩

set_option maxRecDepth 100000 in
set_option maxHeartbeats 8000000 in
theorem rpick_s (ao no : Option Addr) (n cap nn nc : Nat) (l : List At) (ns : List ByteArray) (w : World) (h : AttrsAt w ao n cap l) (hN : StrsAt w no nn nc ns) (hF : Few l) (hS : SmallS ns) :
    Calls Try.prog 28 #[.slice ao n cap, .slice no nn nc] w fun e w' => ∃ v, e = .returned v ∧ AttsR w' v (pickL l ns) ∧ Below w.heap.size w w' := by
  have HR := Lib.hid (rsorted_s ao n cap l w h hF.small hF.vals (by rw [← h.1]; exact hF.len))
  have hlen := Nat.le_trans (nf_len l) hF.len
  have hnl : ns.length = nn := hN.1
  have hnc : nn ≤ 9223372036854775807 := Nat.le_trans hN.2.1 hN.2.2.1
  have HN := Lib.hid hN
  have HS := Lib.hid hS
  clear hN hS
  go_enter Try.func28, Try.ntmps28
  go_wp2_with fail
  refine HR.out.mono ?_
  rintro e w1 ⟨v, T, rfl, hT, hTO, hown, hb⟩
  obtain ⟨_, xo, xc, rfl, hat, _⟩ := ts_owns hown
  have HTA := Lib.hid hat
  have HTO := Lib.hid hTO
  have HB := Lib.hid hb
  have hTl : T.length ≤ 1000 := by rw [← tats_len, hT]; exact hlen
  have HT := Lib.hid hT
  have hxc : xc ≤ 9223372036854775807 := hat.2.2.1
  have HN4 := Lib.hid (HN.out.below hb).2.2.2
  clear HR h hF hat hTO hb hown hT hlen HN
  go_wp2_with fail
  go_loopw [5, 7, 8, 9] (fun v i s8 s9 wr => ∃ (q : Nat) (U : List Tr), q ≤ T.length ∧ i = .int .i64 q ∧ U.length ≤ q ∧ Hid (tats U = ((tats T).take q).filter fun a => wantB ns a.1) ∧ Hid (TOwn wr w.heap.size v U) ∧ wr.ownsRow w1.heap.size 42 2 v U.length (tcells U) ∧ Hid (Below w1.heap.size w1 wr)) (fun _ i _ _ _ => T.length - (intOf i).toNat)
  case atStart => exact ⟨0, [], Nat.zero_le _, rfl, Nat.le_refl _, Lib.hid rfl, Lib.hid (fun t ht => (List.not_mem_nil ht).elim), World.ownsRow_nil _ _ _ _, Lib.hid (Below.refl _ _)⟩
  case round =>
    obtain ⟨q, U, hq, rfl, hUq, HU, HUO, hown, HB2⟩ := hrel
    by_cases hlt : q < T.length
    · obtain ⟨b, off, rfl, hblt, _⟩ := HTA.out.2.2.2 (by omega)
      obtain ⟨a0, a1⟩ := ts_at HTA.out q hlt
      have a0 := cell_later HB2.out a0
      have a1 := cell_later HB2.out a1
      have HTQ := Lib.hid (HTO.out _ (tr_mem T q hlt)).1
      have HFI := Lib.hid (filter_at (l := tats T) (lw := ⟨#[]⟩) (q := q) (by rw [tats_len]; exact hlt) fun a => wantB ns a.1)
      rw [atD_tats] at HFI
      obtain ⟨x, hx⟩ : ∃ x, trD T q = x := ⟨_, rfl⟩
      rw [hx] at a0 a1 HFI HTQ
      clear hx
      obtain ⟨p, hd, vs⟩ := x
      simp only [] at a0 a1 HFI HTQ
      have d1 : (q : Int) < (T.length : Int) := by omega
      obtain ⟨t0, ht0⟩ : ∃ x, decide (nn = 0) = x := ⟨_, rfl⟩
      have HW0 := Lib.hid (show wantAt ns p 0 = t0 by rw [want_zero ns p, hnl]; exact ht0)
      have q0 : ((nn : Int) == 0) = t0 := by rw [← ht0, Bool.eq_iff_iff]; simp
      clear ht0
      have hblt2 : b < wr.heap.size := Nat.lt_of_lt_of_le hblt HB2.out.size
      go_wp2_with fail
      obtain ⟨wb, hwb⟩ : ∃ x, x = wr := ⟨_, rfl⟩
      subst hwb
      go_loopw [8, 9] (fun s8 kv wr => ∃ (k : Nat) (t : Bool), k ≤ nn ∧ kv = .int .i64 k ∧ s8 = .bool t ∧ Hid (wantAt ns p k = t) ∧ Hid (Below wb.heap.size wb wr)) (fun _ kv _ => nn - (intOf kv).toNat)
      case atStart => exact ⟨0, t0, Nat.zero_le _, rfl, rfl, HW0, Lib.hid (Below.refl _ _)⟩
      case round =>
        obtain ⟨k, t, hk, rfl, rfl, HW, HB3⟩ := hrel
        by_cases hlk : k < nn
        · obtain ⟨nb, noff, rfl, hs⟩ := HN4.out (by omega)
          have HB23 := Lib.hid (HB2.out.trans (HB3.out.mono HB2.out.size))
          have hcell := (hs.below HB23.out hs.1).2 k (by omega)
          have HWS := Lib.hid (want_snoc (ns := ns) (a := p) (k := k) (by omega))
          obtain ⟨y, hy⟩ : ∃ x, partAt ns k = x := ⟨_, rfl⟩
          have hys : y.size ≤ 1000000 := by rw [← hy]; exact HS.out _ (part_mem ns k (by omega))
          rw [hy] at hcell HWS
          rw [HW.out] at HWS
          clear hs hy
          obtain ⟨ly, hly⟩ : ∃ x, lowS y = x := ⟨_, rfl⟩
          rw [hly] at HWS
          have HLY := Lib.hid hly
          clear hly
          have a02 := (HB3.out.cell (p := ⟨b, off + q * 2, none⟩) hblt2).trans a0
          have d2 : (k : Int) < (nn : Int) := by omega
          have HBd : Hid (Below wb.heap.size wb wr.drew ∧ wb.heap.size ≤ wr.drew.heap.size) := Lib.hid ⟨HB3.out.drew, HB3.out.size⟩
          cases t with
          | true =>
            have HW2 := Lib.hid (show wantAt ns p (k + 1) = true by rw [HWS.out]; rfl)
            have HB4 := Lib.hid HB3.out.drew
            go_wp2_with fail
            refine wp_region_held_drew (S := fun W => Hid (Below wb.heap.size wb W ∧ wb.heap.size ≤ W.heap.size)) (by kernel_rfl) (HBd) (fun hS => ?_)
            refine wpAnyH_take (i := 0) (oi := { dst := some 27, op := _, type := _, pos := _, after := _, guard := _ }) (v := ?_) rfl (by kernel_rfl) (by kernel_rfl) (by kernel_rfl) (fun _ _ _ h => h) (Or.inl ⟨by rfl, ?_⟩) (by assumption) ?_
            rotate_left
            · intro w hSw
              try dsimp only at hSw
              go_simp
              try with_reducible rfl
            try simp only [Act.put, List.setIfInBounds_toArray, List.set_cons_zero, List.set_cons_succ]
            refine wpAnyH_take (i := 1) (oi := { dst := some 28, op := _, type := _, pos := _, after := _, guard := _ }) (v := ?_) rfl (by kernel_rfl) (by kernel_rfl) (by kernel_rfl) (fun _ _ _ h => h) (Or.inl ⟨by rfl, ?_⟩) (by assumption) ?_
            rotate_left
            · intro w hSw
              try dsimp only at hSw
              go_simp
              try with_reducible rfl
            try simp only [Act.put, List.setIfInBounds_toArray, List.set_cons_zero, List.set_cons_succ]
            refine wpAnyH_take (i := 2) (oi := { dst := some 29, op := _, type := _, pos := _, after := _, guard := _ }) (v := undef) rfl (by kernel_rfl) (by kernel_rfl) (by kernel_rfl) (fun _ _ _ h => h) (Or.inr ⟨by rfl, rfl⟩) (by assumption) ?_
            try simp only [Act.put, List.setIfInBounds_toArray, List.set_cons_zero, List.set_cons_succ]
            refine wpAnyH_take (i := 3) (oi := { dst := some 30, op := _, type := _, pos := _, after := _, guard := _ }) (v := undef) rfl (by kernel_rfl) (by kernel_rfl) (by kernel_rfl) (fun _ _ _ h => h) (Or.inr ⟨by rfl, rfl⟩) (by assumption) ?_
            try simp only [Act.put, List.setIfInBounds_toArray, List.set_cons_zero, List.set_cons_succ]
            refine wpAnyH_take (i := 4) (oi := { dst := some 31, op := _, type := _, pos := _, after := _, guard := _ }) (v := undef) rfl (by kernel_rfl) (by kernel_rfl) (by kernel_rfl) (fun _ _ _ h => h) (Or.inr ⟨by rfl, rfl⟩) (by assumption) ?_
            try simp only [Act.put, List.setIfInBounds_toArray, List.set_cons_zero, List.set_cons_succ]
            refine wpAnyH_take (i := 5) (oi := { dst := some 32, op := _, type := _, pos := _, after := _, guard := _ }) (v := undef) rfl (by kernel_rfl) (by kernel_rfl) (by kernel_rfl) (fun _ _ _ h => h) (Or.inr ⟨by rfl, rfl⟩) (by assumption) ?_
            try simp only [Act.put, List.setIfInBounds_toArray, List.set_cons_zero, List.set_cons_succ]
            refine wpAnyH_take (i := 6) (oi := { dst := some 33, op := _, type := _, pos := _, after := _, guard := _ }) (v := undef) rfl (by kernel_rfl) (by kernel_rfl) (by kernel_rfl) (fun _ _ _ h => h) (Or.inr ⟨by rfl, rfl⟩) (by assumption) ?_
            try simp only [Act.put, List.setIfInBounds_toArray, List.set_cons_zero, List.set_cons_succ]
            refine wpAnyH_take (i := 7) (oi := { dst := some 34, op := _, type := _, pos := _, after := _, guard := _ }) (v := undef) rfl (by kernel_rfl) (by kernel_rfl) (by kernel_rfl) (fun _ _ _ h => h) (Or.inr ⟨by rfl, rfl⟩) (by assumption) ?_
            try simp only [Act.put, List.setIfInBounds_toArray, List.set_cons_zero, List.set_cons_succ]
            refine wpAnyH_take (i := 8) (oi := { dst := some 35, op := _, type := _, pos := _, after := _, guard := _ }) (v := undef) rfl (by kernel_rfl) (by kernel_rfl) (by kernel_rfl) (fun _ _ _ h => h) (Or.inr ⟨by rfl, rfl⟩) (by assumption) ?_
            try simp only [Act.put, List.setIfInBounds_toArray, List.set_cons_zero, List.set_cons_succ]
            refine wpAnyH_take (i := 9) (oi := { dst := some 36, op := _, type := _, pos := _, after := _, guard := _ }) (v := undef) rfl (by kernel_rfl) (by kernel_rfl) (by kernel_rfl) (fun _ _ _ h => h) (Or.inr ⟨by rfl, rfl⟩) (by assumption) ?_
            try simp only [Act.put, List.setIfInBounds_toArray, List.set_cons_zero, List.set_cons_succ]
            refine wpAnyH_take (i := 10) (oi := { dst := some 37, op := _, type := _, pos := _, after := _, guard := _ }) (v := undef) rfl (by kernel_rfl) (by kernel_rfl) (by kernel_rfl) (fun _ _ _ h => h) (Or.inr ⟨by rfl, rfl⟩) (by assumption) ?_
            try simp only [Act.put, List.setIfInBounds_toArray, List.set_cons_zero, List.set_cons_succ]
            refine wpAnyH_take (i := 11) (oi := { dst := some 38, op := _, type := _, pos := _, after := _, guard := _ }) (v := undef) rfl (by kernel_rfl) (by kernel_rfl) (by kernel_rfl) (fun _ _ _ h => h) (Or.inr ⟨by rfl, rfl⟩) (by assumption) ?_
            try simp only [Act.put, List.setIfInBounds_toArray, List.set_cons_zero, List.set_cons_succ]
            refine wpAnyH_take (i := 12) (oi := { dst := some 39, op := _, type := _, pos := _, after := _, guard := _ }) (v := undef) rfl (by kernel_rfl) (by kernel_rfl) (by kernel_rfl) (fun _ _ _ h => h) (Or.inr ⟨by rfl, rfl⟩) (by assumption) ?_
            try simp only [Act.put, List.setIfInBounds_toArray, List.set_cons_zero, List.set_cons_succ]
            refine wpAnyH_take (i := 13) (oi := { dst := some 40, op := _, type := _, pos := _, after := _, guard := _ }) (v := ?_) rfl (by kernel_rfl) (by kernel_rfl) (by kernel_rfl) (fun _ _ _ h => h) (Or.inl ⟨by rfl, ?_⟩) (by assumption) ?_
            rotate_left
            · intro w hSw
              try dsimp only at hSw
              go_simp
              try with_reducible rfl
            try simp only [Act.put, List.setIfInBounds_toArray, List.set_cons_zero, List.set_cons_succ]
            refine wpAnyH_take (i := 14) (oi := { dst := some 8, op := _, type := _, pos := _, after := _, guard := _ }) (v := ?_) rfl (by kernel_rfl) (by kernel_rfl) (by kernel_rfl) (fun _ _ _ h => h) (Or.inl ⟨by rfl, ?_⟩) (by assumption) ?_
            rotate_left
            · intro w hSw
              try dsimp only at hSw
              go_simp
              try with_reducible rfl
            try simp only [Act.put, List.setIfInBounds_toArray, List.set_cons_zero, List.set_cons_succ]
            refine wpAnyH_done (by kernel_rfl) ?_ _
            go_wp2_with fail
            go_roundw
            case rel => exact ⟨k + 1, true, by omega, by go_num, rfl, HW2, HB4⟩
            case measure => simp [intOf]; omega
          | false =>
            obtain ⟨z, hz⟩ : ∃ x, decide (ly = p) = x := ⟨_, rfl⟩
            have q1 : (ly.toList == p.toList) = z := by rw [str_eq]; exact hz
            have HW2 := Lib.hid (show wantAt ns p (k + 1) = z by rw [HWS.out, hz]; rfl)
            clear hz
            go_wp2_with fail
            refine wp_region_held_drew (S := fun W => W.cell? ⟨nb, noff + k, none⟩ = some (.string y) ∧ W.cell? ⟨b, off + q * 2, none⟩ = some (.string p) ∧ Hid (Below wb.heap.size wb W ∧ wb.heap.size ≤ W.heap.size)) (by kernel_rfl) (⟨hcell, a02, HBd⟩) (fun hS => ?_)
            refine wpAnyH_take (i := 0) (oi := { dst := some 27, op := _, type := _, pos := _, after := _, guard := _ }) (v := ?_) rfl (by kernel_rfl) (by kernel_rfl) (by kernel_rfl) (fun _ _ _ h => h) (Or.inl ⟨by rfl, ?_⟩) (by assumption) ?_
            rotate_left
            · intro w hSw
              try dsimp only at hSw
              go_simp
              try with_reducible rfl
            try simp only [Act.put, List.setIfInBounds_toArray, List.set_cons_zero, List.set_cons_succ]
            refine wpAnyH_take (i := 1) (oi := { dst := some 28, op := _, type := _, pos := _, after := _, guard := _ }) (v := ?_) rfl (by kernel_rfl) (by kernel_rfl) (by kernel_rfl) (fun _ _ _ h => h) (Or.inl ⟨by rfl, ?_⟩) (by assumption) ?_
            rotate_left
            · intro w hSw
              try dsimp only at hSw
              go_simp
              try with_reducible rfl
            try simp only [Act.put, List.setIfInBounds_toArray, List.set_cons_zero, List.set_cons_succ]
            refine wpAnyH_take (i := 2) (oi := { dst := some 29, op := _, type := _, pos := _, after := _, guard := _ }) (v := ?_) rfl (by kernel_rfl) (by kernel_rfl) (by kernel_rfl) (fun _ _ _ h => h) (Or.inl ⟨by rfl, ?_⟩) (by assumption) ?_
            rotate_left
            · intro w hSw
              try dsimp only at hSw
              go_simp
              try with_reducible rfl
            try simp only [Act.put, List.setIfInBounds_toArray, List.set_cons_zero, List.set_cons_succ]
            refine wpAnyH_take (i := 3) (oi := { dst := some 30, op := _, type := _, pos := _, after := _, guard := _ }) (v := ?_) rfl (by kernel_rfl) (by kernel_rfl) (by kernel_rfl) (fun _ _ _ h => h) (Or.inl ⟨by rfl, ?_⟩) (by assumption) ?_
            rotate_left
            · intro w hSw
              try dsimp only at hSw
              go_simp
              try with_reducible rfl
            try simp only [Act.put, List.setIfInBounds_toArray, List.set_cons_zero, List.set_cons_succ]
            refine wpAnyH_take (i := 4) (oi := { dst := some 31, op := _, type := _, pos := _, after := _, guard := _ }) (v := ?_) rfl (by kernel_rfl) (by kernel_rfl) (by kernel_rfl) (fun _ _ _ h => h) (Or.inl ⟨by rfl, ?_⟩) (by assumption) ?_
            rotate_left
            · intro w hSw
              try dsimp only at hSw
              go_simp
              try with_reducible rfl
            try simp only [Act.put, List.setIfInBounds_toArray, List.set_cons_zero, List.set_cons_succ]
            refine wpAnyH_take (i := 5) (oi := { dst := some 32, op := _, type := _, pos := _, after := _, guard := _ }) (v := ?_) rfl (by kernel_rfl) (by kernel_rfl) (by kernel_rfl) (fun _ _ _ h => h) (Or.inl ⟨by rfl, ?_⟩) (by assumption) ?_
            rotate_left
            · intro w hSw
              try dsimp only at hSw
              go_simp
              try with_reducible rfl
            try simp only [Act.put, List.setIfInBounds_toArray, List.set_cons_zero, List.set_cons_succ]
            refine wpAnyH_take (i := 7) (oi := { dst := some 34, op := _, type := _, pos := _, after := _, guard := _ }) (v := ?_) rfl (by kernel_rfl) (by kernel_rfl) (by kernel_rfl) (fun _ _ _ h => h) (Or.inl ⟨by rfl, ?_⟩) (by assumption) ?_
            rotate_left
            · intro w hSw
              try dsimp only at hSw
              go_simp
              try with_reducible rfl
            try simp only [Act.put, List.setIfInBounds_toArray, List.set_cons_zero, List.set_cons_succ]
            refine wpAnyH_take (i := 8) (oi := { dst := some 35, op := _, type := _, pos := _, after := _, guard := _ }) (v := ?_) rfl (by kernel_rfl) (by kernel_rfl) (by kernel_rfl) (fun _ _ _ h => h) (Or.inl ⟨by rfl, ?_⟩) (by assumption) ?_
            rotate_left
            · intro w hSw
              try dsimp only at hSw
              go_simp
              try with_reducible rfl
            try simp only [Act.put, List.setIfInBounds_toArray, List.set_cons_zero, List.set_cons_succ]
            refine wpAnyH_take (i := 9) (oi := { dst := some 36, op := _, type := _, pos := _, after := _, guard := _ }) (v := ?_) rfl (by kernel_rfl) (by kernel_rfl) (by kernel_rfl) (fun _ _ _ h => h) (Or.inl ⟨by rfl, ?_⟩) (by assumption) ?_
            rotate_left
            · intro w hSw
              try dsimp only at hSw
              go_simp
              try with_reducible rfl
            try simp only [Act.put, List.setIfInBounds_toArray, List.set_cons_zero, List.set_cons_succ]
            refine wpAnyH_take (i := 10) (oi := { dst := some 37, op := _, type := _, pos := _, after := _, guard := _ }) (v := ?_) rfl (by kernel_rfl) (by kernel_rfl) (by kernel_rfl) (fun _ _ _ h => h) (Or.inl ⟨by rfl, ?_⟩) (by assumption) ?_
            rotate_left
            · intro w hSw
              try dsimp only at hSw
              go_simp
              try with_reducible rfl
            try simp only [Act.put, List.setIfInBounds_toArray, List.set_cons_zero, List.set_cons_succ]
            refine wpAnyH_take (i := 11) (oi := { dst := some 38, op := _, type := _, pos := _, after := _, guard := _ }) (v := ?_) rfl (by kernel_rfl) (by kernel_rfl) (by kernel_rfl) (fun _ _ _ h => h) (Or.inl ⟨by rfl, ?_⟩) (by assumption) ?_
            rotate_left
            · intro w hSw
              try dsimp only at hSw
              go_simp
              try with_reducible rfl
            try simp only [Act.put, List.setIfInBounds_toArray, List.set_cons_zero, List.set_cons_succ]
            refine wpAnyH_ready (rs := [6]) (by kernel_rfl) (by simp) ?_
            refine AllReadyH.cons rfl (fun K hK => ?_) AllReadyH.nil
            go_simp
            refine (rLower_s y _ (by omega)).mono ?_
            rintro e w5 ⟨rfl, hb⟩
            rw [HLY.out]
            go_wp2_with fail
            refine hK.out _ _ ?_ (fun hHeld => ?_)
            · exact keep2b (by assumption) hb
            clear hK K
            try simp only [Act.put, List.setIfInBounds_toArray, List.set_cons_zero, List.set_cons_succ]
            refine wpAnyH_take (i := 12) (oi := { dst := some 39, op := _, type := _, pos := _, after := _, guard := _ }) (v := ?_) rfl (by kernel_rfl) (by kernel_rfl) (by kernel_rfl) (fun _ _ _ h => h) (Or.inl ⟨by rfl, ?_⟩) (by assumption) ?_
            rotate_left
            · intro w hSw
              try dsimp only at hSw
              go_simp
              try with_reducible rfl
            try simp only [Act.put, List.setIfInBounds_toArray, List.set_cons_zero, List.set_cons_succ]
            refine wpAnyH_take (i := 13) (oi := { dst := some 40, op := _, type := _, pos := _, after := _, guard := _ }) (v := ?_) rfl (by kernel_rfl) (by kernel_rfl) (by kernel_rfl) (fun _ _ _ h => h) (Or.inl ⟨by rfl, ?_⟩) (by assumption) ?_
            rotate_left
            · intro w hSw
              try dsimp only at hSw
              go_simp
              try with_reducible rfl
            try simp only [Act.put, List.setIfInBounds_toArray, List.set_cons_zero, List.set_cons_succ]
            refine wpAnyH_take (i := 14) (oi := { dst := some 8, op := _, type := _, pos := _, after := _, guard := _ }) (v := ?_) rfl (by kernel_rfl) (by kernel_rfl) (by kernel_rfl) (fun _ _ _ h => h) (Or.inl ⟨by rfl, ?_⟩) (by assumption) ?_
            rotate_left
            · intro w hSw
              try dsimp only at hSw
              go_simp
              try with_reducible rfl
            try simp only [Act.put, List.setIfInBounds_toArray, List.set_cons_zero, List.set_cons_succ]
            refine wpAnyH_done (by kernel_rfl) ?_ _
            have HB6 := Lib.hid (HBd.out.1.trans (hb.mono HBd.out.2))
            go_wp2_with fail
            go_roundw
            case rel => exact ⟨k + 1, z, by omega, by go_num, rfl, HW2, HB6⟩
            case measure => simp [intOf]; omega
        · obtain rfl : nn = k := by omega
          have HWE := Lib.hid (show wantB ns p = t by rw [← want_end, hnl]; exact HW.out)
          rw [HWE.out] at HFI
          have hown5 := own_below hown HB3.out
          have HUO5 := Lib.hid (HUO.out.below HB3.out)
          have HB6 := Lib.hid (HB2.out.trans (HB3.out.mono HB2.out.size))
          have a05 := (HB3.out.cell (p := ⟨b, off + q * 2, none⟩) hblt2).trans a0
          have a15 := (HB3.out.cell (p := ⟨b, off + q * 2 + 1, none⟩) hblt2).trans a1
          cases t with
          | false =>
            have HF2 := Lib.hid (show tats U = ((tats T).take (q + 1)).filter fun a => wantB ns a.1 by rw [HFI.out, if_neg (by simp), List.append_nil]; exact HU.out)
            go_wp2_with fail
            go_roundw
            case rel => exact ⟨q + 1, U, by omega, by go_num, by omega, HF2, HUO5, hown5, HB6⟩
            case measure => simp [intOf]; omega
          | true =>
            have HF2 := Lib.hid (show tats (U ++ [(p, hd, vs)]) = ((tats T).take (q + 1)).filter fun a => wantB ns a.1 by rw [HFI.out, if_pos rfl, tats_append, HU.out]; rfl)
            have hTQ5 : wr.ownsRow w.heap.size 9 1 hd vs.length (scells vs) := own_below HTQ.out HB6.out
            have hap := own_apart hown5 HTQ.out (Nat.le_refl _)
            have HUO6 := Lib.hid (HUO5.out.snoc (t := (p, hd, vs)) hTQ5 (apart_symm hap))
            have HHd := Lib.hid (hdr_owns hTQ5)
            clear hTQ5 hap hown
            have hsz6 := HB6.out.size
            go_wp2_with (at_builtin; go_must (refine app_attrs (wr.alloc (.cells #[.string p, hd] 42)) (hown5.alloc _) (.tmp 42) (.tmp 47) _ 1 1 [(p, hd, vs)] ?_ ?_ ?_ ?_ (ts_new1 wr (p, hd, vs)) ?_ ?_ ?_ ?_; exact rfl; exact rfl; exact rfl; exact rfl; exact (fun t ht => by rw [List.mem_singleton.1 ht]; exact HHd.out.below ((Below.refl _ wr).alloc (Nat.le_refl _) _)); omega; (simp; omega); intro v7 w7 hown7 hg7 hl7))
            have HTO7 := Lib.hid ((HUO6.out.below ((Below.refl _ wr).alloc (Nat.le_refl _) _)).grown hg7 hl7)
            have hb7 : Below w1.heap.size w1 w7 := (HB6.out.alloc hsz6 _).grown hg7 (by simp; omega) (fun q hq => (hown5.lt q hq).1)
            go_roundw
            case rel => exact ⟨q + 1, U ++ [(p, hd, vs)], by omega, by go_num, by simp; omega, HF2, HTO7, by rw [List.length_append, tcells_append]; exact hown7, Lib.hid hb7⟩
            case measure => simp [intOf]; omega
    · obtain rfl : T.length = q := by omega
      have HE := Lib.hid (show tats U = pickL l ns by rw [HU.out, List.take_of_length_le (by rw [tats_len]; exact Nat.le_refl _), HT.out]; rfl)
      have HR := Lib.hid (atts_own hown HUO.out.ok)
      rw [HE.out] at HR
      go_wp2_with fail
      go_ret
      exact ⟨_, rfl, HR.out, HB.out.trans (HB2.out.mono HB.out.size)⟩

end Go.Proofs.Ytahpocpagidahaa
