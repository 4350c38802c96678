/-
  Contracts of the specification's Get, Has and Names. Condition: as Sorted's.
-/
import Derived.Test.YtahpocpagidahaaAttR2
set_option linter.unusedVariables false
set_option linter.unusedSimpArgs false
set_option linter.unnecessarySimpa false
namespace Go.Proofs.Ytahpocpagidahaa
open Go.RowKit Go.PlainAid

/-- what the functions of the layer ask of a list of attributes -/
structure Few (l : List At) : Prop where
  small : SmallA l
  vals : sumV l ≤ 100000
  len : l.length ≤ 1000
set_option maxRecDepth 100000 in
set_option maxHeartbeats 4000000 in
theorem rget_s (ao : Option Addr) (n cap : Nat) (l : List At) (name : ByteArray) (w : World) (h : AttrsAt w ao n cap l) (hF : Few l) (hns : name.size ≤ 1000000) :
    Calls Try.prog 22 #[.slice ao n cap, .string name] w fun e w' => ∃ v, e = .returned v ∧ Hdr w' v (vals l (lowS name)) ∧ Below w.heap.size w w' := by
  have HR := Lib.hid (rsorted_s ao n cap l w h hF.small hF.vals (by rw [← h.1]; exact hF.len))
  have hlen := Nat.le_trans (nf_len l) hF.len
  go_enter Try.func22, Try.ntmps22
  go_wp2_with fail
  refine HR.out.mono ?_
  rintro e w1 ⟨v, T, rfl, hT, hTO, hown, hb⟩
  obtain ⟨_, xo, xc, rfl, hat, _⟩ := ts_owns hown
  have HTA := Lib.hid hat
  have HTO := Lib.hid hTO.ok
  have HB := Lib.hid hb
  have HT := Lib.hid hT
  have hTl : T.length ≤ 1000 := by rw [← tats_len, hT]; exact hlen
  have hxc : xc ≤ 9223372036854775807 := hat.2.2.1
  clear HR h hF hat hTO hb hown hT hlen
  obtain ⟨lw, hlw⟩ : ∃ x, lowS name = x := ⟨_, rfl⟩
  have HLW := Lib.hid hlw
  clear hlw
  have HV : ∀ j, j < T.length → Hid ((trD T j).2.2 = vals l (trD T j).1) := fun j hj => Lib.hid (by
    have h5 := nf_at (l := l) (i := j) (by rw [← HT.out, tats_len]; exact hj)
    rw [← HT.out, atD_tats] at h5
    exact h5)
  go_wp2_with fail
  go_loopw [6] (fun i wr => ∃ q : Nat, q ≤ T.length ∧ i = .int .i64 q ∧ Hid (∀ j, j < q → (trD T j).1 ≠ lw) ∧ Hid (Below w1.heap.size w1 wr)) (fun i _ => T.length - (intOf i).toNat)
  case atStart => exact ⟨0, Nat.zero_le _, rfl, Lib.hid (fun j hj => absurd hj (Nat.not_lt_zero _)), Lib.hid (Below.refl _ _)⟩
  case round =>
    obtain ⟨q, hq, rfl, HA, HB2⟩ := hrel
    by_cases hlt : q < T.length
    · obtain ⟨b, off, rfl, hblt, _⟩ := HTA.out.2.2.2 (by omega)
      obtain ⟨a0, a1⟩ := ts_at HTA.out q hlt
      have a0 := cell_later HB2.out a0
      have a1 := cell_later HB2.out a1
      have HHd := Lib.hid (HTO.out _ (tr_mem T q hlt))
      have HVq := HV q hlt
      have HNE := Lib.hid (fun (e : (trD T q).1 ≠ lw) j (hj : j < q + 1) => if h : j = q then by rw [h]; exact e else HA.out j (by omega))
      obtain ⟨x, hx⟩ : ∃ x, trD T q = x := ⟨_, rfl⟩
      rw [hx] at a0 a1 HHd HVq HNE
      clear hx
      obtain ⟨p, hd, vs⟩ := x
      simp only [] at a0 a1 HHd HVq HNE
      have d1 : (q : Int) < (T.length : Int) := by omega
      have HBd : Hid (Below w1.heap.size w1 wr.drew ∧ w1.heap.size ≤ wr.drew.heap.size) := Lib.hid ⟨HB2.out.drew, HB2.out.size⟩
      by_cases hpl : p = lw
      · have q1 : (p.toList == lw.toList) = true := by rw [str_eq]; exact decide_eq_true hpl
        go_wp2_with fail
        go_region_held3 (fun W => W.cell? ⟨b, off + q * 2, none⟩ = some (.string p) ∧ W.cell? ⟨b, off + q * 2 + 1, none⟩ = some hd ∧ Hid (Below w1.heap.size w1 W ∧ w1.heap.size ≤ W.heap.size))
          (first | exact ⟨a0, a1, HBd⟩ | exact keep2b (by assumption) hb | go_keep)
          ((go_at_call 35; with_reducible refine (rLower_s name _ (by omega)).mono ?_; rintro e w5 ⟨rfl, hb⟩; rw [HLW.out]))
        have HB6 := Lib.hid (HBd.out.1.trans (hb.mono HBd.out.2))
        have a15 := cell_later (hb.mono (Nat.le_refl _)) (show wr.drew.cell? ⟨b, off + q * 2 + 1, none⟩ = some hd from a1)
        go_wp2_with fail
        go_ret
        refine ⟨hd, rfl, ?_, HB.out.trans (HB6.out.mono HB.out.size)⟩
        rw [HLW.out, ← hpl, ← HVq.out]
        exact HHd.out.below HB6.out
      · have q1 : (p.toList == lw.toList) = false := by rw [str_eq]; exact decide_eq_false hpl
        have HN2 := Lib.hid (HNE.out hpl)
        clear hpl
        go_wp2_with fail
        go_region_held3 (fun W => W.cell? ⟨b, off + q * 2, none⟩ = some (.string p) ∧ W.cell? ⟨b, off + q * 2 + 1, none⟩ = some hd ∧ Hid (Below w1.heap.size w1 W ∧ w1.heap.size ≤ W.heap.size))
          (first | exact ⟨a0, a1, HBd⟩ | exact keep2b (by assumption) hb | go_keep)
          ((go_at_call 35; with_reducible refine (rLower_s name _ (by omega)).mono ?_; rintro e w5 ⟨rfl, hb⟩; rw [HLW.out]))
        have HB6 := Lib.hid (HBd.out.1.trans (hb.mono HBd.out.2))
        go_wp2_with fail
        go_roundw
        case rel => exact ⟨q + 1, by omega, by go_num, HN2, HB6⟩
        case measure => simp [intOf]; omega
    · obtain rfl : q = T.length := by omega
      have HE := Lib.hid (show vals l lw = [] from nf_none fun j hj => by
        rw [← HT.out, tats_len] at hj
        rw [← HT.out, atD_tats]
        exact HA.out j hj)
      go_wp2_with fail
      go_ret
      exact ⟨_, rfl, by rw [HLW.out, HE.out]; exact hdr_nil _, HB.out.trans (HB2.out.mono HB.out.size)⟩

theorem rhas_s (ao : Option Addr) (n cap : Nat) (l : List At) (name v : ByteArray) (w : World) (h : AttrsAt w ao n cap l) (hF : Few l) (hns : name.size ≤ 1000000) :
    Calls Try.prog 24 #[.slice ao n cap, .string name, .string v] w fun e w' => e = .returned (.bool (memB (vals l (lowS name)) v)) ∧ Below w.heap.size w w' := by
  have HR := Lib.hid (rget_s ao n cap l name w h hF hns)
  go_enter Try.func24, Try.ntmps24
  go_wp2_with fail
  refine HR.out.mono ?_
  rintro e w1 ⟨u, rfl, hH, hb⟩
  obtain ⟨xo, xn, xc, rfl, hs⟩ := hH
  have HS := Lib.hid (has_s xo xn xc _ v w1 hs)
  clear hs
  go_wp2_with fail
  refine HS.out.mono ?_
  rintro e w2 ⟨rfl, rfl⟩
  go_wp2_with fail
  go_ret
  exact ⟨rfl, hb⟩

theorem requal_s (ao bo : Option Addr) (n m cap dap : Nat) (l k : List At) (w : World) (h : AttrsAt w ao n cap l) (h' : AttrsAt w bo m dap k) (hF : Few l) (hG : Few k) :
    Calls Try.prog 18 #[.slice ao n cap, .slice bo m dap] w fun e w' => e = .returned (.bool (decide (nf l = nf k))) ∧ Below w.heap.size w w' := by
  have HR := Lib.hid (rsorted_s ao n cap l w h hF.small hF.vals (by rw [← h.1]; exact hF.len))
  have HK := Lib.hid h'
  have hkl : m ≤ 1000 := by rw [← h'.1]; exact hG.len
  clear h h'
  go_enter Try.func18, Try.ntmps18
  go_wp2_with fail
  refine HR.out.mono ?_
  rintro e w1 ⟨v, T, rfl, hT, hTO, hown, hb⟩
  have HA := Lib.hid (atts_own hown hTO.ok)
  have HB := Lib.hid hb
  have HR2 := Lib.hid (rsorted_s bo m dap k w1 (HK.out.below hb) hG.small hG.vals hkl)
  rw [hT] at HA
  clear hown hTO hT hb HR
  go_wp2_with fail
  refine HR2.out.mono ?_
  rintro e w2 ⟨u, U, rfl, hU, hUO, hown, hb⟩
  have HA2 := Lib.hid (atts_own hown hUO.ok)
  rw [hU] at HA2
  have HB2 := Lib.hid (HB.out.trans (hb.mono HB.out.size))
  obtain ⟨xo, xn, xc, rfl, hx⟩ := HA.out.below hb
  obtain ⟨yo, yn, yc, rfl, hy⟩ := HA2.out
  have HS := Lib.hid (rsame_s xo yo xn yn xc yc _ _ w2 hx hy)
  clear hown hUO hU hb HR2 hx hy HA HA2 HK
  go_wp2_with fail
  refine HS.out.mono ?_
  rintro e w3 ⟨rfl, hb⟩
  go_wp2_with fail
  go_ret
  exact ⟨rfl, HB2.out.trans (hb.mono HB2.out.size)⟩

end Go.Proofs.Ytahpocpagidahaa
