/-
  Contracts of slices.EqualFunc at attributes and of attrs.Equal. Condition: as Sorted's.
-/
import Derived.Test.YtahpocpagidahaaAttP1
import Derived.Test.YtahpocpagidahaaAttR3
import Derived.Test.YtahpocpagidahaaShelfE
import Derived.Shelf.SlicesG.Equal
set_option linter.unusedVariables false
set_option linter.unusedSimpArgs false
set_option linter.unnecessarySimpa false
namespace Go.Proofs.Ytahpocpagidahaa
open Go.RowKit Go.PlainAid

theorem sequal_s (vo uo : Option Addr) (vn un vc uc : Nat) (vs us : List ByteArray) (w : World) (h : StrsAt w vo vn vc vs) (k : StrsAt w uo un uc us) (h0 : 0 < vn) (k0 : 0 < un) :
    Calls Try.prog 48 #[.slice vo vn vc, .slice uo un uc] w fun e w' => e = .returned (.bool (decide (vs = us))) ∧ Below w.heap.size w w' := by
  obtain ⟨b, off, rfl, hi⟩ := h.2.2.2 h0
  obtain ⟨c, off2, rfl, hj⟩ := k.2.2.2 k0
  refine (AnyG.slices_Equal_string Try.equal b off vn vc c off2 un uc vs us w (by rw [h.1]; exact Nat.le_refl _) (by rw [k.1]; exact Nat.le_refl _) (Nat.le_trans h.2.1 h.2.2.1) (Nat.le_trans k.2.1 k.2.2.1) (fun j hj' => hi.2 j hj') (fun j hj' => hj.2 j hj')).mono ?_
  rintro e w' ⟨rfl, q, rfl⟩
  rw [List.take_of_length_le (by rw [h.1]; exact Nat.le_refl _), List.take_of_length_le (by rw [k.1]; exact Nat.le_refl _)]
  exact ⟨rfl, ⟨rfl, rfl, rfl, Nat.le_refl _, fun _ _ => rfl⟩⟩
set_option maxRecDepth 100000 in
set_option maxHeartbeats 2000000 in
theorem eq1_s (p q : ByteArray) (vo uo : Option Addr) (vn un vc uc : Nat) (vs us : List ByteArray) (w : World) (h : StrsAt w vo vn vc vs) (k : StrsAt w uo un uc us) (h0 : 0 < vn) (k0 : 0 < un) :
    Calls Try.prog 47 #[.agg #[.string p, .slice vo vn vc], .agg #[.string q, .slice uo un uc]] w fun e w' => e = .returned (.bool (decide (p = q ∧ vs = us))) ∧ Below w.heap.size w w' := by
  obtain ⟨W1, hW1⟩ : ∃ x, w.alloc (.cells #[.string p, .slice vo vn vc] 42) = x := ⟨_, rfl⟩
  obtain ⟨W2, hW2⟩ : ∃ x, W1.alloc (.cells #[.string q, .slice uo un uc] 42) = x := ⟨_, rfl⟩
  have hb1 : Below w.heap.size w W1 := by rw [← hW1]; exact (Below.refl _ w).alloc (Nat.le_refl _) _
  have hb2 : Below W1.heap.size W1 W2 := by rw [← hW2]; exact (Below.refl _ W1).alloc (Nat.le_refl _) _
  have X1 : ABox W2 w.heap.size p (.slice vo vn vc) := ABox.below (by rw [← hW1]; exact abox_new w p _) hb2
  have X2 : ABox W2 W1.heap.size q (.slice uo un uc) := by rw [← hW2]; exact abox_new W1 q _
  have hs1 : W1.heap.size = w.heap.size + 1 := by rw [← hW1]; simp
  rw [hs1] at X2
  obtain ⟨x0, x1⟩ := X1.cells
  obtain ⟨y0, y1⟩ := X2.cells
  have HBW := Lib.hid (hb1.trans (hb2.mono hb1.size))
  have HV := Lib.hid (h.below HBW.out)
  have HU := Lib.hid (k.below HBW.out)
  clear h k hb1 hb2 X1 X2 hs1
  subst hW2
  subst hW1
  by_cases hpq : p = q
  · have q1 : (p.toList == q.toList) = true := by rw [str_eq]; exact decide_eq_true hpq
    have HE := Lib.hid (show decide (p = q ∧ vs = us) = decide (vs = us) by simp [hpq])
    have HS := Lib.hid (sequal_s vo uo vn un vc uc vs us _ HV.out HU.out h0 k0)
    clear hpq
    go_enter Try.func47, Try.ntmps47
    go_wp2_with fail
    refine HS.out.mono ?_
    rintro e w' ⟨rfl, hb⟩
    go_wp2_with fail
    go_ret
    exact ⟨by rw [HE.out]; rfl, HBW.out.trans (hb.mono HBW.out.size)⟩
  · have q1 : (p.toList == q.toList) = false := by rw [str_eq]; exact decide_eq_false hpq
    have HE := Lib.hid (show decide (p = q ∧ vs = us) = false from decide_eq_false fun e => hpq e.1)
    clear hpq
    go_enter Try.func47, Try.ntmps47
    go_wp2_with fail
    go_ret
    exact ⟨by rw [HE.out]; rfl, HBW.out⟩

set_option maxRecDepth 100000 in
set_option maxHeartbeats 4000000 in
theorem eqf_s (ao bo : Option Addr) (n m cap dap : Nat) (T U : List Tr) (w : World) (h : TsAt w ao n cap T) (k : TsAt w bo m dap U) (hT : TOk w T) (hU : TOk w U) (nT : ∀ t ∈ T, t.2.2 ≠ []) (nU : ∀ t ∈ U, t.2.2 ≠ []) :
    Calls Try.prog 46 #[.slice ao n cap, .slice bo m dap, .func (.func 47) #[] #[]] w fun e w' => e = .returned (.bool (decide (tats T = tats U))) ∧ Below w.heap.size w w' := by
  have hTl : T.length = n := h.1
  have hUl : U.length = m := k.1
  have hnb : n ≤ 9223372036854775807 := Nat.le_trans h.2.1 h.2.2.1
  have HT := Lib.hid h
  have HU := Lib.hid k
  have HTK := Lib.hid hT
  have HUK := Lib.hid hU
  clear h k hT hU
  by_cases hne : n = m
  · have hn1 : ((n : Int) != (m : Int)) = false := by simp; omega
    have HNE := Lib.hid hne
    clear hne
    go_enter Try.func46, Try.ntmps46
    go_wp2
    go_loopw [7, 8, 9, 17] (fun s7 s8 s9 iv wr => ∃ q : Nat, q ≤ n ∧ iv = .int .i64 q ∧ Hid (∀ j, j < q → atD (tats T) j = atD (tats U) j) ∧ Hid (Below w.heap.size w wr)) (fun _ _ _ iv _ => n - (intOf iv).toNat)
    case atStart => exact ⟨0, Nat.zero_le _, rfl, Lib.hid (fun j hj => absurd hj (Nat.not_lt_zero _)), Lib.hid (Below.refl _ _)⟩
    case round =>
      obtain ⟨q, hq, rfl, HA, HB⟩ := hrel
      by_cases hlt : q < n
      · obtain ⟨b, off, rfl, hblt, _⟩ := HT.out.2.2.2 (by omega)
        obtain ⟨c, off2, rfl, hclt, _⟩ := HU.out.2.2.2 (by have := HNE.out; omega)
        obtain ⟨a0, a1⟩ := ts_at HT.out q hlt
        obtain ⟨b0, b1⟩ := ts_at HU.out q (by have := HNE.out; omega)
        have a0 := cell_later HB.out a0
        have a1 := cell_later HB.out a1
        have b0 := cell_later HB.out b0
        have b1 := cell_later HB.out b1
        have hx1 := HTK.out _ (tr_mem T q (by omega))
        have hy1 := HUK.out _ (tr_mem U q (by have := HNE.out; omega))
        have hx2 := nT _ (tr_mem T q (by omega))
        have hy2 := nU _ (tr_mem U q (by have := HNE.out; omega))
        have HE1 := Lib.hid (atD_tats T q)
        have HE2 := Lib.hid (atD_tats U q)
        obtain ⟨x, hx⟩ : ∃ x, trD T q = x := ⟨_, rfl⟩
        obtain ⟨y, hy⟩ : ∃ x, trD U q = x := ⟨_, rfl⟩
        rw [hx] at a0 a1 hx1 hx2 HE1
        rw [hy] at b0 b1 hy1 hy2 HE2
        clear hx hy
        obtain ⟨p, hd, vs⟩ := x
        obtain ⟨r, he, us⟩ := y
        simp only [] at a0 a1 hx1 hx2 HE1 b0 b1 hy1 hy2 HE2
        obtain ⟨vo, vn, vc, rfl, hv⟩ := hx1
        obtain ⟨uo, un, uc, rfl, hu⟩ := hy1
        have h0 : 0 < vn := by rw [← hv.1]; exact List.length_pos_iff.2 hx2
        have k0 : 0 < un := by rw [← hu.1]; exact List.length_pos_iff.2 hy2
        have d1 : (q : Int) < (n : Int) := by omega
        have d2 : (q : Int) < (m : Int) := by have := HNE.out; omega
        have d0 : (0 : Int) ≤ (q : Int) := by omega
        obtain ⟨W1, hW1⟩ : ∃ x, wr.alloc (.cells #[.string p, .slice vo vn vc] 42) = x := ⟨_, rfl⟩
        obtain ⟨W2, hW2⟩ : ∃ x, W1.alloc (.cells #[.string r, .slice uo un uc] 42) = x := ⟨_, rfl⟩
        have hb1 : Below wr.heap.size wr W1 := by rw [← hW1]; exact (Below.refl _ wr).alloc (Nat.le_refl _) _
        have hb2 : Below W1.heap.size W1 W2 := by rw [← hW2]; exact (Below.refl _ W1).alloc (Nat.le_refl _) _
        have X1 : ABox W1 wr.heap.size p (.slice vo vn vc) := by rw [← hW1]; exact abox_new wr p _
        have X1b : ABox W2 wr.heap.size p (.slice vo vn vc) := ABox.below X1 hb2
        have X2 : ABox W2 W1.heap.size r (.slice uo un uc) := by rw [← hW2]; exact abox_new W1 r _
        have hs1 : W1.heap.size = wr.heap.size + 1 := by rw [← hW1]; simp
        rw [hs1] at X2
        obtain ⟨x0, x1⟩ := X1b.cells
        obtain ⟨y0, y1⟩ := X2.cells
        have b01 := cell_later hb1 b0
        have b11 := cell_later hb1 b1
        have HBW := Lib.hid (HB.out.trans ((hb1.trans (hb2.mono hb1.size)).mono HB.out.size))
        have HV := Lib.hid (hv.below HBW.out)
        have HUU := Lib.hid (hu.below HBW.out)
        have HS := Lib.hid (eq1_s p r vo uo vn un vc uc vs us W2 HV.out HUU.out h0 k0)
        clear hb1 hb2 X1 X1b X2 hs1 hv hu
        subst hW2
        subst hW1
        obtain ⟨z, hz⟩ : ∃ x, decide (p = r ∧ vs = us) = x := ⟨_, rfl⟩
        rw [hz] at HS
        cases z with
        | true =>
          have HX := Lib.hid (show atD (tats T) q = atD (tats U) q by
            have := of_decide_eq_true hz
            rw [HE1.out, HE2.out, this.1, this.2])
          clear hz
          go_wp2_with fail
          refine HS.out.mono ?_
          rintro e w5 ⟨rfl, hb⟩
          have HB6 := Lib.hid (HBW.out.trans (hb.mono HBW.out.size))
          go_wp2_with fail
          go_roundw
          case rel =>
            refine ⟨q + 1, by omega, by go_num, Lib.hid fun j hj => ?_, HB6⟩
            by_cases e : j = q
            · rw [e]; exact HX.out
            · exact HA.out j (by omega)
          case measure => simp [intOf]; omega
        | false =>
          have HX := Lib.hid (show decide (tats T = tats U) = false from decide_eq_false fun e => of_decide_eq_false hz (by
            have h5 := HE1.out
            rw [e, HE2.out] at h5
            exact ⟨(congrArg Prod.fst h5).symm, (congrArg Prod.snd h5).symm⟩))
          clear hz
          go_wp2_with fail
          refine HS.out.mono ?_
          rintro e w5 ⟨rfl, hb⟩
          have HB6 := Lib.hid (HBW.out.trans (hb.mono HBW.out.size))
          go_wp2_with fail
          go_ret
          exact ⟨by rw [HX.out]; rfl, HB6.out⟩
      · have HX := Lib.hid (show decide (tats T = tats U) = true from decide_eq_true (ats_ext (by rw [tats_len, tats_len]; have := HNE.out; omega) fun j hj => HA.out j (by rw [tats_len] at hj; omega)))
        go_wp2_with fail
        go_ret
        exact ⟨by rw [HX.out]; rfl, HB.out⟩
  · have HX := Lib.hid (show decide (tats T = tats U) = false from decide_eq_false fun e => hne (by rw [← hTl, ← hUl, ← tats_len T, ← tats_len U, e]))
    have hn1 : ((n : Int) != (m : Int)) = true := by simp; omega
    go_enter Try.func46, Try.ntmps46
    go_wp2_with fail
    go_ret
    exact ⟨by rw [HX.out]; rfl, Below.refl _ _⟩
theorem nf_ne {l : List At} {T : List Tr} (hT : tats T = nf l) : ∀ t ∈ T, t.2.2 ≠ [] := fun t ht => (nf_NF l).ne (t.1, t.2.2) (by rw [← hT]; exact List.mem_map.2 ⟨t, ht, rfl⟩)
set_option maxRecDepth 100000 in
set_option maxHeartbeats 2000000 in
theorem equal_s (ao bo : Option Addr) (n m cap dap : Nat) (l k : List At) (w : World) (h : AttrsAt w ao n cap l) (h' : AttrsAt w bo m dap k) (hF : Few l) (hG : Few k) :
    Calls Try.prog 17 #[.slice ao n cap, .slice bo m dap] w fun e w' => e = .returned (.bool (decide (nf l = nf k))) ∧ Below w.heap.size w w' := by
  have HR := Lib.hid (sorted_s ao n cap l w h hF)
  have HK := Lib.hid h'
  clear h h'
  go_enter Try.func17, Try.ntmps17
  go_wp2_with fail
  refine HR.out.mono ?_
  rintro e w1 ⟨v, T, rfl, hT, hTO, _, hown, hb⟩
  obtain ⟨_, xo, xc, rfl, hat, _⟩ := ts_owns hown
  have HAT := Lib.hid hat
  have HTO := Lib.hid hTO.ok
  have HT := Lib.hid hT
  have HB := Lib.hid hb
  have HR2 := Lib.hid (sorted_s bo m dap k w1 (HK.out.below hb) hG)
  clear hown hTO hT hb HR hat
  go_wp2_with fail
  refine HR2.out.mono ?_
  rintro e w2 ⟨u, U, rfl, hU, hUO, _, hown, hb⟩
  obtain ⟨_, yo, yc, rfl, hau, _⟩ := ts_owns hown
  have HB2 := Lib.hid (HB.out.trans (hb.mono HB.out.size))
  have HS := Lib.hid (eqf_s xo yo T.length U.length xc yc T U w2 (HAT.out.below hb) hau (HTO.out.below hb) hUO.ok (nf_ne HT.out) (nf_ne hU))
  rw [HT.out, hU] at HS
  clear hown hUO hU hb HR2 hau HK
  go_wp2_with fail
  refine HS.out.mono ?_
  rintro e w3 ⟨rfl, hb⟩
  go_wp2_with fail
  go_ret
  exact ⟨rfl, HB2.out.trans (hb.mono HB2.out.size)⟩

end Go.Proofs.Ytahpocpagidahaa
