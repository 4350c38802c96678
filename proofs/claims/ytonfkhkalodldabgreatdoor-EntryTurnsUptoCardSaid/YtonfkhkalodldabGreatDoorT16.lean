/-
  Texts of the schema layer and of those beneath it, joined: EntEq, EntAp, EntApW, EntVn, EntWo. Conditions stand at each contract.
-/
import Derived.Test.YtonfkhkalodldabGreatDoorT15
set_option linter.unusedVariables false
set_option linter.unusedSimpArgs false
set_option linter.unnecessarySimpa false

section
set_option maxRecDepth 100000
namespace Go.Proofs.YtonfkhkalodldabGreatDoor
open Go.RowKit Go.PlainAid
set_option maxRecDepth 100000 in
set_option maxHeartbeats 2000000 in
theorem enEq1_s (p q : ByteArray) (vo uo : Option Addr) (vn un vc uc : Nat) (vs us : List ByteArray) (w : World) (h : StrsAt w vo vn vc vs) (k : StrsAt w uo un uc us) (h0 : 0 < vn) (k0 : 0 < un) :
  Calls Tryz.prog 53 #[.agg #[.string p, .slice vo vn vc], .agg #[.string q, .slice uo un uc]] w fun e w' => e = .returned (.bool (decide (p = q ∧ vs = us))) ∧ Below w.heap.size w w' := by
 obtain ⟨W1, hW1⟩ : ∃ x, w.alloc (.cells #[.string p, .slice vo vn vc] 41) = x := ⟨_, rfl⟩
 obtain ⟨W2, hW2⟩ : ∃ x, W1.alloc (.cells #[.string q, .slice uo un uc] 41) = x := ⟨_, rfl⟩
 have hb1 : Below w.heap.size w W1 := by rw [← hW1]; exact (Below.refl _ w).alloc (Nat.le_refl _) _
 have hb2 : Below W1.heap.size W1 W2 := by rw [← hW2]; exact (Below.refl _ W1).alloc (Nat.le_refl _) _
 have X1 : ABox W2 w.heap.size p (.slice vo vn vc) := ABox.below (by rw [← hW1]; exact abox_new w p _) hb2
 have X2 : ABox W2 W1.heap.size q (.slice uo un uc) := by rw [← hW2]; exact abox_new W1 q _
 have hs1 : W1.heap.size = w.heap.size + 1 := by rw [← hW1]; simp
 rw [hs1] at X2
 obtain ⟨x0, x1⟩ := X1.cells
 obtain ⟨y0, y1⟩ := X2.cells
 have HBW := Lib.hid (hb1.trans (hb2.mono hb1.size))
 have HV := Lib.hid (h.below HBW.out)
 have HU := Lib.hid (k.below HBW.out)
 clear h k hb1 hb2 X1 X2 hs1
 subst hW2
 subst hW1
 by_cases hpq : p = q
 ·have q1 : (p.toList == q.toList) = true := by rw [str_eq]; exact decide_eq_true hpq
  have HE := Lib.hid (show decide (p = q ∧ vs = us) = decide (vs = us) by simp [hpq])
  have HS := Lib.hid (sequal_s vo uo vn un vc uc vs us _ HV.out HU.out h0 k0)
  clear hpq
  go_enter Tryz.func53, Tryz.ntmps53
  go_wp2_with fail
  refine HS.out.mono ?_
  rintro e w' ⟨rfl, hb⟩
  go_wp2_with fail
  go_ret
  exact ⟨by rw [HE.out]; rfl, HBW.out.trans (hb.mono HBW.out.size)⟩
 ·have q1 : (p.toList == q.toList) = false := by rw [str_eq]; exact decide_eq_false hpq
  have HE := Lib.hid (show decide (p = q ∧ vs = us) = false from decide_eq_false fun e => hpq e.1)
  clear hpq
  go_enter Tryz.func53, Tryz.ntmps53
  go_wp2_with fail
  go_ret
  exact ⟨by rw [HE.out]; rfl, HBW.out⟩
set_option maxRecDepth 100000 in
set_option maxHeartbeats 4000000 in
theorem enEqf_s (ao bo : Option Addr) (n m cap dap : Nat) (T U : List Tr) (w : World) (h : TsAt w ao n cap T) (k : TsAt w bo m dap U) (hT : TOk w T) (hU : TOk w U) (nT : ∀ t ∈ T, t.2.2 ≠ []) (nU : ∀ t ∈ U, t.2.2 ≠ []) :
  Calls Tryz.prog 52 #[.slice ao n cap, .slice bo m dap, .func (.func 53) #[] #[]] w fun e w' => e = .returned (.bool (decide (tats T = tats U))) ∧ Below w.heap.size w w' := by
 have hTl : T.length = n := h.1
 have hUl : U.length = m := k.1
 have hnb : n ≤ 9223372036854775807 := Nat.le_trans h.2.1 h.2.2.1
 have HT := Lib.hid h
 have HU := Lib.hid k
 have HTK := Lib.hid hT
 have HUK := Lib.hid hU
 clear h k hT hU
 by_cases hne : n = m
 ·have hn1 : ((n : Int) != (m : Int)) = false := by simp; omega
  have HNE := Lib.hid hne
  clear hne
  go_enter Tryz.func52, Tryz.ntmps52
  go_wp2
  go_loopw [7, 8, 9, 17] (fun s7 s8 s9 iv wr => ∃ q : Nat, q ≤ n ∧ iv = .int .i64 q ∧ Hid (∀ j, j < q → atD (tats T) j = atD (tats U) j) ∧ Hid (Below w.heap.size w wr)) (fun _ _ _ iv _ => n - (intOf iv).toNat)
  case atStart => exact ⟨0, Nat.zero_le _, rfl, Lib.hid (fun j hj => absurd hj (Nat.not_lt_zero _)), Lib.hid (Below.refl _ _)⟩
  case round =>
   obtain ⟨q, hq, rfl, HA, HB⟩ := hrel
   by_cases hlt : q < n
   ·obtain ⟨b, off, rfl, hblt, _⟩ := HT.out.2.2.2 (by omega)
    obtain ⟨c, off2, rfl, hclt, _⟩ := HU.out.2.2.2 (by have := HNE.out; omega)
    obtain ⟨a0, a1⟩ := ts_at HT.out q hlt
    obtain ⟨b0, b1⟩ := ts_at HU.out q (by have := HNE.out; omega)
    have a0 := cell_later HB.out a0
    have a1 := cell_later HB.out a1
    have b0 := cell_later HB.out b0
    have b1 := cell_later HB.out b1
    have hx1 := HTK.out _ (tr_mem T q (by omega))
    have hy1 := HUK.out _ (tr_mem U q (by have := HNE.out; omega))
    have hx2 := nT _ (tr_mem T q (by omega))
    have hy2 := nU _ (tr_mem U q (by have := HNE.out; omega))
    have HE1 := Lib.hid (atD_tats T q)
    have HE2 := Lib.hid (atD_tats U q)
    obtain ⟨x, hx⟩ : ∃ x, trD T q = x := ⟨_, rfl⟩
    obtain ⟨y, hy⟩ : ∃ x, trD U q = x := ⟨_, rfl⟩
    rw [hx] at a0 a1 hx1 hx2 HE1
    rw [hy] at b0 b1 hy1 hy2 HE2
    clear hx hy
    obtain ⟨p, hd, vs⟩ := x
    obtain ⟨r, he, us⟩ := y
    simp only [] at a0 a1 hx1 hx2 HE1 b0 b1 hy1 hy2 HE2
    obtain ⟨vo, vn, vc, rfl, hv⟩ := hx1
    obtain ⟨uo, un, uc, rfl, hu⟩ := hy1
    have h0 : 0 < vn := by rw [← hv.1]; exact List.length_pos_iff.2 hx2
    have k0 : 0 < un := by rw [← hu.1]; exact List.length_pos_iff.2 hy2
    have d1 : (q : Int) < (n : Int) := by omega
    have d2 : (q : Int) < (m : Int) := by have := HNE.out; omega
    have d0 : (0 : Int) ≤ (q : Int) := by omega
    obtain ⟨W1, hW1⟩ : ∃ x, wr.alloc (.cells #[.string p, .slice vo vn vc] 41) = x := ⟨_, rfl⟩
    obtain ⟨W2, hW2⟩ : ∃ x, W1.alloc (.cells #[.string r, .slice uo un uc] 41) = x := ⟨_, rfl⟩
    have hb1 : Below wr.heap.size wr W1 := by rw [← hW1]; exact (Below.refl _ wr).alloc (Nat.le_refl _) _
    have hb2 : Below W1.heap.size W1 W2 := by rw [← hW2]; exact (Below.refl _ W1).alloc (Nat.le_refl _) _
    have X1 : ABox W1 wr.heap.size p (.slice vo vn vc) := by rw [← hW1]; exact abox_new wr p _
    have X1b : ABox W2 wr.heap.size p (.slice vo vn vc) := ABox.below X1 hb2
    have X2 : ABox W2 W1.heap.size r (.slice uo un uc) := by rw [← hW2]; exact abox_new W1 r _
    have hs1 : W1.heap.size = wr.heap.size + 1 := by rw [← hW1]; simp
    rw [hs1] at X2
    obtain ⟨x0, x1⟩ := X1b.cells
    obtain ⟨y0, y1⟩ := X2.cells
    have b01 := cell_later hb1 b0
    have b11 := cell_later hb1 b1
    have HBW := Lib.hid (HB.out.trans ((hb1.trans (hb2.mono hb1.size)).mono HB.out.size))
    have HV := Lib.hid (hv.below HBW.out)
    have HUU := Lib.hid (hu.below HBW.out)
    have HS := Lib.hid (enEq1_s p r vo uo vn un vc uc vs us W2 HV.out HUU.out h0 k0)
    clear hb1 hb2 X1 X1b X2 hs1 hv hu
    subst hW2
    subst hW1
    obtain ⟨z, hz⟩ : ∃ x, decide (p = r ∧ vs = us) = x := ⟨_, rfl⟩
    rw [hz] at HS
    cases z with
    | true =>
     have HX := Lib.hid (show atD (tats T) q = atD (tats U) q by
      have := of_decide_eq_true hz
      rw [HE1.out, HE2.out, this.1, this.2])
     clear hz
     go_wp2_with fail
     refine HS.out.mono ?_
     rintro e w5 ⟨rfl, hb⟩
     have HB6 := Lib.hid (HBW.out.trans (hb.mono HBW.out.size))
     go_wp2_with fail
     go_roundw
     case rel =>
      refine ⟨q + 1, by omega, by go_num, Lib.hid fun j hj => ?_, HB6⟩
      by_cases e : j = q
      ·rw [e]; exact HX.out
      ·exact HA.out j (by omega)
     case measure => simp [intOf]; omega
    | false =>
     have HX := Lib.hid (show decide (tats T = tats U) = false from decide_eq_false fun e => of_decide_eq_false hz (by
      have h5 := HE1.out
      rw [e, HE2.out] at h5
      exact ⟨(congrArg Prod.fst h5).symm, (congrArg Prod.snd h5).symm⟩))
     clear hz
     go_wp2_with fail
     refine HS.out.mono ?_
     rintro e w5 ⟨rfl, hb⟩
     have HB6 := Lib.hid (HBW.out.trans (hb.mono HBW.out.size))
     go_wp2_with fail
     go_ret
     exact ⟨by rw [HX.out]; rfl, HB6.out⟩
   ·have HX := Lib.hid (show decide (tats T = tats U) = true from decide_eq_true (ats_ext (by rw [tats_len, tats_len]; have := HNE.out; omega) fun j hj => HA.out j (by rw [tats_len] at hj; omega)))
    go_wp2_with fail
    go_ret
    exact ⟨by rw [HX.out]; rfl, HB.out⟩
 ·have HX := Lib.hid (show decide (tats T = tats U) = false from decide_eq_false fun e => hne (by rw [← hTl, ← hUl, ← tats_len T, ← tats_len U, e]))
  have hn1 : ((n : Int) != (m : Int)) = true := by simp; omega
  go_enter Tryz.func52, Tryz.ntmps52
  go_wp2_with fail
  go_ret
  exact ⟨by rw [HX.out]; rfl, Below.refl _ _⟩
set_option maxHeartbeats 4000000 in
theorem identical_s (en fn : ByteArray) (ao bo : Option Addr) (n m cap dap : Nat) (l k : List At) (w : World) (h : AttrsAt w ao n cap l) (h' : AttrsAt w bo m dap k) (hl : ∀ a ∈ l, a.2 ≠ []) (hk : ∀ a ∈ k, a.2 ≠ []) :
  Calls Tryz.prog 25 #[.agg #[.string en, .slice ao n cap], .agg #[.string fn, .slice bo m dap]] w fun e w' => e = .returned (.bool (decide (en = fn ∧ l = k))) ∧ Below w.heap.size w w' := by
 have b0 := below_al w (.cells #[.string en, .slice ao n cap] 28)
 have b1 := below_al (w.alloc (.cells #[.string en, .slice ao n cap] 28)) (.cells #[.string fn, .slice bo m dap] 28)
 have HB := Lib.hid (b0.trans (b1.mono b0.size))
 obtain ⟨T, hT, tT, aT⟩ := ats_ts (h.below HB.out)
 obtain ⟨U, hU, tU, aU⟩ := ats_ts (h'.below HB.out)
 have HS := Lib.hid (enEqf_s ao bo n m cap dap T U _ aT aU tT tU (fun t ht => hl (t.1, t.2.2) (by rw [← hT]; exact List.mem_map.2 ⟨t, ht, rfl⟩)) (fun t ht => hk (t.1, t.2.2) (by rw [← hU]; exact List.mem_map.2 ⟨t, ht, rfl⟩)))
 rw [hT, hU] at HS
 clear b0 b1 h h' hT tT aT hU tU aU hl hk
 obtain ⟨z, hz⟩ : ∃ z, decide (en = fn) = z := ⟨_, rfl⟩
 have q1 : (en.toList == fn.toList) = z := by rw [str_eq]; exact hz
 obtain ⟨y, hy⟩ : ∃ y, decide (l = k) = y := ⟨_, rfl⟩
 rw [hy] at HS
 have HD := Lib.hid (show decide (en = fn ∧ l = k) = (z && y) by rw [← hz, ← hy]; exact Bool.decide_and _ _)
 clear hz hy
 go_enter Tryz.func25, Tryz.ntmps25
 cases z
 ·go_wp2_with fail
  go_ret
  exact ⟨by rw [HD.out]; rfl, HB.out⟩
 ·go_wp2_with fail
  refine HS.out.mono ?_
  rintro e w1 ⟨rfl, hb⟩
  go_wp2_with fail
  go_ret
  exact ⟨by rw [HD.out]; rfl, HB.out.trans (hb.mono HB.out.size)⟩
theorem clean_eq61 {s : ByteArray} (h : Nam.cleanV s ≠ ⟨#[]⟩) : (61 : UInt8) ∈ (Nam.cleanV s).data.toList := by
 unfold Nam.cleanV at h ⊢
 by_cases h1 : Nam.parseE s = 0
 ·rw [if_pos h1] at h ⊢
  unfold Nam.fmtV at h ⊢
  by_cases h2 : Nam.fmtE (Nam.parseV s) = 0
  ·rw [if_pos h2] at h ⊢
   cases e : Nam.parseV s with
   | nil => rw [e] at h; exact absurd rfl h
   | cons p r =>
    have key : (61 : UInt8) ∈ Nam.fmtC p := by unfold Nam.fmtC; simp
    have hb : (61 : UInt8) ∈ Nam.barC ((p :: r).map Nam.fmtC) := by
     cases r with
     | nil => exact key
     | cons q t => rw [List.map_cons, List.map_cons]; exact List.mem_append.2 (.inl key)
    show (61 : UInt8) ∈ (Nam.ofB (Nam.barC ((p :: r).map Nam.fmtC))).data.toList
    rw [Nam.ofB_data]; exact hb
  ·rw [if_neg h2] at h; exact absurd rfl h
 ·rw [if_neg h1] at h; exact absurd rfl h
theorem clean_no_name {s : ByteArray} (h : Nam.cleanV s ≠ ⟨#[]⟩) : nameB (Nam.cleanV s) = false := by
 cases e : nameB (Nam.cleanV s)
 ·rfl
 ·exact absurd rfl (Nam.name_bytes e _ (clean_eq61 h)).2.1
theorem two_cell {W : World} {b o : Nat} {c0 c1 x : Value} {t : TypeId} (h : W.heap[b]? = some (.cells #[c0, c1] t)) (hc : W.cell? ⟨b, o, none⟩ = some x) : (o = 0 ∧ x = c0) ∨ (o = 1 ∧ x = c1) := by
 rw [Lib.cell_of_heap h] at hc
 match o, hc with
 | 0, hc => exact .inl ⟨rfl, by simpa using hc.symm⟩
 | 1, hc => exact .inr ⟨rfl, by simpa using hc.symm⟩
 | o + 2, hc => simp at hc
theorem cell_keep1 {W : World} {b g o : Nat} {c0 c1 x : Value} {t : TypeId} (h : W.heap[b]? = some (.cells #[c0, c1] t)) (u : Value) (hc : W.cell? ⟨g, o, none⟩ = some x) (hne : g = b → o ≠ 1) : (W.setCell ⟨b, 1, none⟩ u).cell? ⟨g, o, none⟩ = some x := by
 by_cases e : g = b
 ·subst e
  rcases two_cell h hc with ⟨rfl, rfl⟩ | ⟨rfl, _⟩
  ·exact heap_cell (Lib.heap_setCell_same h u) rfl
  ·exact absurd rfl (hne rfl)
 ·rw [← hc]
  exact World.cell?_of_block (a := ⟨g, o, none⟩) (Below.heap_setCell W ⟨b, 1, none⟩ u g e)
theorem cell_keep0 {W : World} {b g o : Nat} {c0 c1 x : Value} {t : TypeId} (h : W.heap[b]? = some (.cells #[c0, c1] t)) (u : Value) (hc : W.cell? ⟨g, o, none⟩ = some x) (hne : g = b → o ≠ 0) : (W.setCell ⟨b, 0, none⟩ u).cell? ⟨g, o, none⟩ = some x := by
 by_cases e : g = b
 ·subst e
  rcases two_cell h hc with ⟨rfl, _⟩ | ⟨rfl, rfl⟩
  ·exact absurd rfl (hne rfl)
  ·exact heap_cell (Lib.heap_setCell_same h u) rfl
 ·rw [← hc]
  exact World.cell?_of_block (a := ⟨g, o, none⟩) (Below.heap_setCell W ⟨b, 0, none⟩ u g e)
theorem atts_set {W : World} {b : Nat} {s : ByteArray} {x : Option Addr} {y z : Nat} {t : TypeId} (hW : W.heap[b]? = some (.cells #[.string s, .slice x y z] t)) {ro : Option Addr} {rn rc : Nat} {r : List At} (h : AttrsAt W ro rn rc r) (hs : ∀ a ∈ r, a.1 ≠ s) (u : Value) : AttrsAt (W.setCell ⟨b, 1, none⟩ u) ro rn rc r := by
 obtain ⟨h1, h2, h3, h4⟩ := h
 refine ⟨h1, h2, h3, fun hn => ?_⟩
 obtain ⟨g, off, e, hg, ha⟩ := h4 hn
 refine ⟨g, off, e, by rw [set_size]; exact hg, fun j hj => ?_⟩
 obtain ⟨k0, vo, vn, vc, k1, q1, q2, q3, q4⟩ := ha j hj
 have hne : g ≠ b := fun e => by
  subst e
  rcases two_cell hW k0 with ⟨_, e⟩ | ⟨_, e⟩
  ·injection e with e
   exact hs _ (by rw [at_get _ _ (by omega)]; exact List.getElem_mem _) e
  ·cases e
 refine ⟨cell_keep1 hW u k0 (fun e => absurd e hne), vo, vn, vc, cell_keep1 hW u k1 (fun e => absurd e hne), q1, q2, q3, fun hv => ?_⟩
 obtain ⟨g', o', e', hg', hc'⟩ := q4 hv
 refine ⟨g', o', e', by rw [set_size]; exact hg', fun i hi => cell_keep1 hW u (hc' i hi) fun e1 e2 => ?_⟩
 subst e1
 rcases two_cell hW (hc' i hi) with ⟨e3, _⟩ | ⟨_, e3⟩
 ·omega
 ·cases e3
theorem atts_set0 {W : World} {b : Nat} {s : ByteArray} {x : Option Addr} {y z : Nat} {t : TypeId} (hW : W.heap[b]? = some (.cells #[.string s, .slice x y z] t)) {ro : Option Addr} {rn rc : Nat} {r : List At} (h : AttrsAt W ro rn rc r) (hs : ∀ a ∈ r, a.1 ≠ s ∧ s ∉ a.2) (u : Value) : AttrsAt (W.setCell ⟨b, 0, none⟩ u) ro rn rc r := by
 obtain ⟨h1, h2, h3, h4⟩ := h
 refine ⟨h1, h2, h3, fun hn => ?_⟩
 obtain ⟨g, off, e, hg, ha⟩ := h4 hn
 refine ⟨g, off, e, by rw [set_size]; exact hg, fun j hj => ?_⟩
 obtain ⟨k0, vo, vn, vc, k1, q1, q2, q3, q4⟩ := ha j hj
 have hm : atD r j ∈ r := by rw [at_get _ _ (by omega)]; exact List.getElem_mem _
 have hne : g ≠ b := fun e => by
  subst e
  rcases two_cell hW k0 with ⟨_, e⟩ | ⟨_, e⟩
  ·injection e with e
   exact (hs _ hm).1 e
  ·cases e
 refine ⟨cell_keep0 hW u k0 (fun e => absurd e hne), vo, vn, vc, cell_keep0 hW u k1 (fun e => absurd e hne), q1, q2, q3, fun hv => ?_⟩
 obtain ⟨g', o', e', hg', hc'⟩ := q4 hv
 refine ⟨g', o', e', by rw [set_size]; exact hg', fun i hi => cell_keep0 hW u (hc' i hi) fun e1 e2 => ?_⟩
 subst e1
 rcases two_cell hW (hc' i hi) with ⟨_, e3⟩ | ⟨e3, _⟩
 ·injection e3 with e3
  refine (hs _ hm).2 ?_
  rw [← e3]; exact part_mem _ _ hi
 ·omega
theorem chk_names {r : List At} (h : chkA r = 0) : ∀ a ∈ r, nameB a.1 = true ∧ a.2 ≠ [] ∧ ∀ v ∈ a.2, cleanB v = true := by
 intro a ha
 obtain ⟨j, hj, rfl⟩ := mem_at ha
 have k := (chk_ok h).each _ ha
 refine ⟨k.1, ?_, k.2.2.clean⟩
 unfold chkA at h
 rw [if_neg (by have := (chk_ok h).len; omega)] at h
 have h2 := firstE_all h j hj
 unfold errA at h2
 intro e
 rw [if_neg (by rw [k.1]; decide)] at h2
 split at h2
 ·cases h2
 ·rw [e, if_pos (show ([] : List ByteArray).length = 0 from rfl)] at h2; cases h2
theorem atts_res {W : World} {b : Nat} {t : TypeId} (hW : W.heap[b]? = some (.cells #[.string ⟨#[]⟩, .slice none 0 0] t)) {ro : Option Addr} {rn rc : Nat} {r : List At} (h : AttrsAt W ro rn rc r) (hc : chkA r = 0) {en : ByteArray} (hen : nameB en = false) (u : Value) :
  AttrsAt ((W.setCell ⟨b, 0, none⟩ (.string en)).setCell ⟨b, 1, none⟩ u) ro rn rc r := by
 have k := chk_names hc
 refine atts_set (Lib.heap_setCell_same hW (.string en)) (atts_set0 hW h (fun a ha => ⟨fun e => ?_, fun e => ?_⟩) _) (fun a ha e => ?_) u
 ·have := (k a ha).1; rw [e] at this; revert this; decide +kernel
 ·have := (k a ha).2.2 _ e; revert this; decide +kernel
 ·have := (k a ha).1; rw [e, hen] at this; cases this
/-! ### modifications in a slice -/
def MdAt (w : World) (b off : Nat) (m : Md) : Prop :=
 w.cell? ⟨b, off, none⟩ = some (.int .i64 m.op) ∧ w.cell? ⟨b, off + 1, none⟩ = some (.string m.name) ∧ ∃ vo vn vc, w.cell? ⟨b, off + 2, none⟩ = some (.slice vo vn vc) ∧ StrsAt w vo vn vc m.vs
theorem MdAt.below {w w' : World} {b off : Nat} {m : Md} (h : MdAt w b off m) (hb : Below w.heap.size w w') : MdAt w' b off m := by
 obtain ⟨h0, h1, vo, vn, vc, h2, h3⟩ := h
 exact ⟨cell_later hb h0, cell_later hb h1, vo, vn, vc, cell_later hb h2, h3.below hb⟩
def mdD (l : List Md) (j : Nat) : Md := l.getD j default
def MdsAt (w : World) (ao : Option Addr) (n cap : Nat) (l : List Md) : Prop :=
 l.length = n ∧ n ≤ cap ∧ cap ≤ maxLen ∧ (0 < n → ∃ b off, ao = some ⟨b, off, none⟩ ∧ b < w.heap.size ∧ ∀ j, j < n → MdAt w b (off + j * 3) (mdD l j))
theorem MdsAt.below {w w' : World} {ao : Option Addr} {n cap : Nat} {l : List Md} (h : MdsAt w ao n cap l) (hb : Below w.heap.size w w') : MdsAt w' ao n cap l :=
 ⟨h.1, h.2.1, h.2.2.1, fun hn => by
  obtain ⟨b, off, e, hi, ha⟩ := h.2.2.2 hn
  exact ⟨b, off, e, Nat.lt_of_lt_of_le hi hb.size, fun j hj => (ha j hj).below hb⟩⟩
theorem md_drop {l : List Md} {i : Nat} (h : i < l.length) : l.drop i = mdD l i :: l.drop (i + 1) := by
 rw [List.drop_eq_getElem_cons h]
 congr 1
 unfold mdD
 rw [List.getD_eq_getElem?_getD, List.getElem?_eq_getElem h]; rfl
structure SmM (ms : List Md) : Prop where
 nm : ∀ m ∈ ms, m.name.size ≤ 1100000
 vl : ∀ m ∈ ms, m.vs.length ≤ 1050000
 vs : ∀ m ∈ ms, SmallS m.vs
theorem md_mem {l : List Md} {i : Nat} (h : i < l.length) : mdD l i ∈ l := by
 unfold mdD
 rw [List.getD_eq_getElem?_getD, List.getElem?_eq_getElem h]; exact List.getElem_mem _
/-! ### Apply -/
def apE (T : List Ty) (cs : List Cl) (en : ByteArray) (l : List At) (ms : List Md) : Int :=
 if ¬ (enE T cs en l = 0 ∧ Nam.cleanV en = en ∧ nmL T (nf l) = l) then 2 else if 32 < ms.length then 3 else if (modsR T l ms).2 ≠ 0 then (modsR T l ms).2 else vldE T cs (modsR T l ms).1
def apN (T : List Ty) (cs : List Cl) (en : ByteArray) (l : List At) (ms : List Md) : ByteArray := if apE T cs en l ms = 0 then en else ⟨#[]⟩
def apL (T : List Ty) (cs : List Cl) (en : ByteArray) (l : List At) (ms : List Md) : List At := if apE T cs en l ms = 0 then (modsR T l ms).1 else []
def ApP (T : List Ty) (cs : List Cl) (en : ByteArray) (l : List At) (ms : List Md) (w : World) (e : Ending) (w' : World) : Prop :=
 ∃ v, e = .returned (.tuple #[v, .int .i64 (apE T cs en l ms)]) ∧ EnV w' v (apN T cs en l ms) (apL T cs en l ms) ∧ Below w.heap.size w w'
theorem ApP.no {T : List Ty} {cs : List Cl} {en : ByteArray} {l : List At} {ms : List Md} {w w' : World} {c : Int} (h : apE T cs en l ms = c) (h0 : c ≠ 0) (hb : Below w.heap.size w w') : ApP T cs en l ms w (.returned (.tuple #[.agg #[.string ⟨#[]⟩, .slice none 0 0], .int .i64 c])) w' := by
 subst h
 refine ⟨_, rfl, ?_, hb⟩
 unfold apN apL
 rw [if_neg h0, if_neg h0]
 exact env_nil _
theorem ApP.yes {T : List Ty} {cs : List Cl} {en : ByteArray} {l : List At} {ms : List Md} {w w' : World} {ao : Option Addr} {n cap : Nat} {k : List At} (h : apE T cs en l ms = 0) (hk : (modsR T l ms).1 = k) (ha : AttrsAt w' ao n cap k) (hb : Below w.heap.size w w') :
  ApP T cs en l ms w (.returned (.tuple #[.agg #[.string en, .slice ao n cap], .int .i64 0])) w' := by
 subst hk
 refine ⟨_, by rw [h], ?_, hb⟩
 unfold apN apL
 rw [if_pos h, if_pos h]
 exact ⟨ao, n, cap, rfl, ha⟩
theorem ap_arg {T : List Ty} {cs : List Cl} {en : ByteArray} {l : List At} {ms : List Md} (h : ¬ (enE T cs en l = 0 ∧ Nam.cleanV en = en ∧ nmL T (nf l) = l)) : apE T cs en l ms = 2 := if_pos h
theorem ap_lim {T : List Ty} {cs : List Cl} {en : ByteArray} {l : List At} {ms : List Md} (h : enE T cs en l = 0 ∧ Nam.cleanV en = en ∧ nmL T (nf l) = l) (hm : 32 < ms.length) : apE T cs en l ms = 3 := by
 unfold apE; rw [if_neg (fun k => k h), if_pos hm]
theorem ap_mod {T : List Ty} {cs : List Cl} {en : ByteArray} {l : List At} {ms : List Md} (h : enE T cs en l = 0 ∧ Nam.cleanV en = en ∧ nmL T (nf l) = l) (hm : ¬ 32 < ms.length) {c : Int} {k : List At} (hr : modsR T l ms = (k, c)) (h0 : c ≠ 0) : apE T cs en l ms = c := by
 unfold apE; rw [if_neg (fun k => k h), if_neg hm, hr, if_pos h0]
theorem ap_vld {T : List Ty} {cs : List Cl} {en : ByteArray} {l : List At} {ms : List Md} (h : enE T cs en l = 0 ∧ Nam.cleanV en = en ∧ nmL T (nf l) = l) (hm : ¬ 32 < ms.length) {c : Int} {k : List At} (hr : modsR T l ms = (k, 0)) (hv : vldE T cs k = c) : apE T cs en l ms = c := by
 subst hv
 unfold apE; rw [if_neg (fun k => k h), if_neg hm, hr]; exact if_neg (fun k => k rfl)
theorem en_parts {T : List Ty} {cs : List Cl} {en : ByteArray} {l : List At} (h : enE T cs en l = 0) : Nam.cleanV en ≠ ⟨#[]⟩ ∧ chkA l = 0 ∧ nmE T (nf l) = 0 := by
 unfold enE at h
 by_cases c1 : Nam.cleanE en ≠ 0 ∨ Nam.cleanV en = ⟨#[]⟩
 ·rw [if_pos c1] at h; cases h
 ·rw [if_neg c1] at h
  by_cases c2 : chkA l = 0
  ·rw [if_neg (by simp [c2])] at h
   by_cases c3 : nmE T (nf l) = 0
   ·exact ⟨fun k => c1 (.inr k), c2, c3⟩
   ·rw [if_pos c3] at h; exact absurd h c3
  ·rw [if_pos c2] at h; exact absurd h c2
structure ApI (T : List Ty) (en : ByteArray) (l : List At) (ms : List Md) (w : World) (b8 : Nat) (sch : Obj) (i : Nat) (ko : Option Addr) (kn kc : Nat) (k : List At) (wr : World) : Prop where
 kS : Kb wr w.heap.size sch
 kR : Kb wr (w.heap.size + 2) (.cells #[.string ⟨#[]⟩, .slice none 0 0] 28)
 kN : Kb wr b8 (.cells #[.string en, .slice ko kn kc] 28)
 at' : AttrsAt wr ko kn kc k
 chk : chkA k = 0
 run : modsR T l ms = modsR T k (ms.drop i)
 low : Below w.heap.size w wr
 big : w.heap.size + 3 ≤ b8
theorem ApI.below {T : List Ty} {en : ByteArray} {l : List At} {ms : List Md} {w : World} {b8 : Nat} {sch : Obj} {i : Nat} {ko : Option Addr} {kn kc : Nat} {k : List At} {wr V : World} (h : ApI T en l ms w b8 sch i ko kn kc k wr) (hb : Below wr.heap.size wr V) : ApI T en l ms w b8 sch i ko kn kc k V :=
 ⟨h.kS.step hb, h.kR.step hb, h.kN.step hb, h.at'.below hb, h.chk, h.run, h.low.trans (hb.mono h.low.size), h.big⟩
theorem ApI.next {T : List Ty} {en : ByteArray} {l : List At} {ms : List Md} {w : World} {b8 : Nat} {sch : Obj} {i : Nat} {ko : Option Addr} {kn kc : Nat} {k : List At} {W : World} (h : ApI T en l ms w b8 sch i ko kn kc k W) (hi : i < ms.length) (hen : nameB en = false) {ro : Option Addr} {rn rc : Nat} {r : List At} (hr : AttrsAt W ro rn rc r) (hm : modR T k (mdD ms i) = (r, 0)) :
  ApI T en l ms w b8 sch (i + 1) ro rn rc r (W.setCell ⟨b8, 1, none⟩ (.slice ro rn rc)) := by
 have hc : chkA r = 0 := by have := mod_chk (T := T) (m := mdD ms i) h.chk (by rw [hm]); rwa [hm] at this
 have hbg := h.big
 refine ⟨h.kS.set _ _ (by show w.heap.size ≠ b8; omega), h.kR.set _ _ (by show w.heap.size + 2 ≠ b8; omega), Lib.heap_setCell_same h.kN _, atts_set h.kN hr (fun a ha e => ?_) _, hc, ?_, h.low.setCell (p := ⟨b8, 1, none⟩) (by show w.heap.size ≤ b8; omega) _, hbg⟩
 ·have := (chk_names hc a ha).1; rw [e, hen] at this; cases this
 ·rw [h.run, md_drop hi, mods_ok hm]
set_option maxHeartbeats 16000000 in
theorem apply_s (to : Option Addr) (tn tc : Nat) (co : Option Addr) (cn cc : Nat) (ts : List Ty) (cs : List Cl) (en : ByteArray) (ao : Option Addr) (n cap : Nat) (l : List At) (mo : Option Addr) (mn mc : Nat) (ms : List Md) (w : World) (h : SchV w (.agg #[.slice to tn tc, .slice co cn cc]) ts cs) (hen : en.size ≤ 1100000) (ha : AttrsAt w ao n cap l) (hS : SmallA l) (hF : FewV l) (hM : MdsAt w mo mn mc ms) (hSm : SmM ms) (ho : IntOk w) :
  Calls Tryz.prog 8 #[.agg #[.slice to tn tc, .slice co cn cc], .agg #[.string en, .slice ao n cap], .slice mo mn mc] w fun e w' => ApP (soundT ts cs) (soundC ts cs) en l ms w e w' := by
 have HS := Lib.hid h; clear h
 have HA := Lib.hid ha; clear ha
 have HO := Lib.hid ho; clear ho
 have HM := Lib.hid hM
 have hmcap := hM.2.1
 have hmmx := hM.2.2.1
 unfold maxLen at hmmx
 clear hM
 have HMl := Lib.hid HM.out.1
 have hs0 := below_al w (.cells #[.slice to tn tc, .slice co cn cc] 25)
 have HVd := Lib.hid (fun (V : World) (hb : Below w.heap.size w V) (c : ByteArray) (bo : Option Addr) (bn bc : Nat) (k : List At) (hk : AttrsAt V bo bn bc k) (hl : LightE k) => validF_s _ ts cs c bo bn bc k V (HS.out.below hb) hk hl.fewE (HO.out.below hb))
 have HMd := Lib.hid (fun (V : World) (hb : Below w.heap.size w V) (ko : Option Addr) (kn kc : Nat) (k : List At) (op : Int) (nm : ByteArray) (vo : Option Addr) (vn vc : Nat) (vs : List ByteArray) (ha : AttrsAt V ko kn kc k) (hv : StrsAt V vo vn vc vs) (hl : LightE k) (hz : SmallS vs) (hm : vn ≤ 1050000) (hn : nm.size ≤ 1100000) => modified_s to tn tc co cn cc ts cs ko kn kc k op nm vo vn vc vs V (HS.out.below hb) ha hv hl hz hm hn (HO.out.below hb))
 have hb0 : Below w.heap.size w (((w.alloc (.cells #[.slice to tn tc, .slice co cn cc] 25)).alloc (.cells #[.string en, .slice ao n cap] 28)).alloc (.cells #[.string ⟨#[]⟩, .slice none 0 0] 28)) := (hs0.alloc (by simp) _).alloc (by simp; omega) _
 have hk0 : Kb (((w.alloc (.cells #[.slice to tn tc, .slice co cn cc] 25)).alloc (.cells #[.string en, .slice ao n cap] 28)).alloc (.cells #[.string ⟨#[]⟩, .slice none 0 0] 28)) w.heap.size (.cells #[.slice to tn tc, .slice co cn cc] 25) := ((kbl_new w _).step (below_al _ _)).step (below_al _ _)
 have hk1 : Kb (((w.alloc (.cells #[.slice to tn tc, .slice co cn cc] 25)).alloc (.cells #[.string en, .slice ao n cap] 28)).alloc (.cells #[.string ⟨#[]⟩, .slice none 0 0] 28)) (w.heap.size + 1) (.cells #[.string en, .slice ao n cap] 28) := by
  have := (kbl_new (w.alloc (.cells #[.slice to tn tc, .slice co cn cc] 25)) (.cells #[.string en, .slice ao n cap] 28)).step (below_al _ (.cells #[.string ⟨#[]⟩, .slice none 0 0] 28))
  simpa using this
 have hk2 := enz_new w (.cells #[.slice to tn tc, .slice co cn cc] 25) (.cells #[.string en, .slice ao n cap] 28)
 have HNm := Lib.hid (enNormal_s to tn tc co cn cc ts cs en ao n cap l (((w.alloc (.cells #[.slice to tn tc, .slice co cn cc] 25)).alloc (.cells #[.string en, .slice ao n cap] 28)).alloc (.cells #[.string ⟨#[]⟩, .slice none 0 0] 28)) (HS.out.below hb0) hen (HA.out.below hb0) hS hF (HO.out.below hb0))
 unfold EnP at HNm
 obtain ⟨T, hT⟩ : ∃ T, soundT ts cs = T := ⟨_, rfl⟩
 obtain ⟨C, hC⟩ : ∃ C, soundC ts cs = C := ⟨_, rfl⟩
 rw [hT] at HMd HVd HNm ⊢
 rw [hC] at HVd HNm ⊢
 clear hT hC
 obtain ⟨c, hc⟩ : ∃ c, enE T C en l = c := ⟨_, rfl⟩
 obtain ⟨nn, hnn⟩ : ∃ x, enN T C en l = x := ⟨_, rfl⟩
 obtain ⟨nl, hnl⟩ : ∃ x, enL T C en l = x := ⟨_, rfl⟩
 rw [hc, hnn, hnl] at HNm
 have HC := Lib.hid hc
 have HNN := Lib.hid (And.intro hnn hnl)
 have HB0 := Lib.hid hb0
 have HK0 := Lib.hid (And.intro hk0 (And.intro hk1 hk2))
 obtain ⟨c0, c1⟩ : (((w.alloc (.cells #[.slice to tn tc, .slice co cn cc] 25)).alloc (.cells #[.string en, .slice ao n cap] 28)).alloc (.cells #[.string ⟨#[]⟩, .slice none 0 0] 28)).cell? ⟨w.heap.size, 0, none⟩ = some (.slice to tn tc) ∧ (((w.alloc (.cells #[.slice to tn tc, .slice co cn cc] 25)).alloc (.cells #[.string en, .slice ao n cap] 28)).alloc (.cells #[.string ⟨#[]⟩, .slice none 0 0] 28)).cell? ⟨w.heap.size, 1, none⟩ = some (.slice co cn cc) := ⟨hk0.cell rfl, hk0.cell rfl⟩
 obtain ⟨e0, e1⟩ : (((w.alloc (.cells #[.slice to tn tc, .slice co cn cc] 25)).alloc (.cells #[.string en, .slice ao n cap] 28)).alloc (.cells #[.string ⟨#[]⟩, .slice none 0 0] 28)).cell? ⟨w.heap.size + 1, 0, none⟩ = some (.string en) ∧ (((w.alloc (.cells #[.slice to tn tc, .slice co cn cc] 25)).alloc (.cells #[.string en, .slice ao n cap] 28)).alloc (.cells #[.string ⟨#[]⟩, .slice none 0 0] 28)).cell? ⟨w.heap.size + 1, 1, none⟩ = some (.slice ao n cap) := ⟨hk1.cell rfl, hk1.cell rfl⟩
 clear hs0 hb0 hk0 hk1 hk2 hc hnn hnl
 go_enter Tryz.func8, Tryz.ntmps8
 go_wp2_with fail
 refine HNm.out.mono ?_
 rintro e w1 ⟨_, rfl, ⟨no, n1, nc, rfl, hNA⟩, hb⟩
 have hbl := below_al w1 (.cells #[.string nn, .slice no n1 nc] 28)
 have HB1 := Lib.hid (HB0.out.trans ((hb.trans (hbl.mono hb.size)).mono HB0.out.size))
 have HK1 := Lib.hid (And.intro ((HK0.out.1.step hb).step hbl) (And.intro ((HK0.out.2.1.step hb).step hbl) (And.intro ((HK0.out.2.2.step hb).step hbl) (kbl_new w1 (.cells #[.string nn, .slice no n1 nc] 28)))))
 have HNA := Lib.hid (hNA.below hbl)
 have hsz1 : w.heap.size + 3 ≤ w1.heap.size := (HK0.out.2.2.step hb).big
 obtain ⟨b8, hb8⟩ : ∃ x, w1.heap.size = x := ⟨_, rfl⟩
 clear hb hbl hNA c0 c1 e0 e1 HNm HB0 HK0
 by_cases h0 : c = 0
 ·subst h0
  have HPt := Lib.hid (en_parts HC.out)
  have HNe := Lib.hid (show nn = Nam.cleanV en ∧ nl = nmL T (nf l) by
   rw [← HNN.out.1, ← HNN.out.2]; unfold enN enL; rw [if_pos HC.out, if_pos HC.out]; exact ⟨rfl, rfl⟩)
  have HId := Lib.hid (fun (V : World) (hV : Below (w1.alloc (.cells #[.string nn, .slice no n1 nc] 28)).heap.size (w1.alloc (.cells #[.string nn, .slice no n1 nc] 28)) V) => identical_s nn en no ao n1 n nc cap nl l V (HNA.out.below hV) (HA.out.below (HB1.out.trans (hV.mono HB1.out.size))) (by rw [HNe.out.2]; exact (nm_NF (nf_NF l)).ne) (fun a ha => (chk_names HPt.out.2.1 a ha).2.1))
  obtain ⟨z, hz⟩ : ∃ z, decide (nn = en ∧ nl = l) = z := ⟨_, rfl⟩
  rw [hz] at HId
  obtain ⟨k0, k1⟩ : (w1.alloc (.cells #[.string nn, .slice no n1 nc] 28)).cell? ⟨w1.heap.size, 0, none⟩ = some (.string nn) ∧ (w1.alloc (.cells #[.string nn, .slice no n1 nc] 28)).cell? ⟨w1.heap.size, 1, none⟩ = some (.slice no n1 nc) := ⟨HK1.out.2.2.2.cell rfl, HK1.out.2.2.2.cell rfl⟩
  obtain ⟨e0, e1⟩ : (w1.alloc (.cells #[.string nn, .slice no n1 nc] 28)).cell? ⟨w.heap.size + 1, 0, none⟩ = some (.string en) ∧ (w1.alloc (.cells #[.string nn, .slice no n1 nc] 28)).cell? ⟨w.heap.size + 1, 1, none⟩ = some (.slice ao n cap) := ⟨HK1.out.2.1.cell rfl, HK1.out.2.1.cell rfl⟩
  have HZ := Lib.hid hz
  clear hz
  rw [hb8] at k0 k1 HK1
  go_wp2_with fail
  refine (HId.out _ (Below.refl _ _)).mono ?_
  rintro e w2 ⟨rfl, hb⟩
  have HB2 := Lib.hid (HB1.out.trans (hb.mono HB1.out.size))
  have HK2 := Lib.hid (And.intro (HK1.out.1.step hb) (And.intro (HK1.out.2.2.1.step hb) (HK1.out.2.2.2.step hb)))
  have HNA2 := Lib.hid (HNA.out.below hb)
  clear hb k0 k1 e0 e1 HId HK1 HNA
  cases z
  ·have HE := Lib.hid (ap_arg (T := T) (cs := C) (en := en) (l := l) (ms := ms) (fun k => by
    have := of_decide_eq_false HZ.out
    exact this ⟨HNe.out.1.trans k.2.1, HNe.out.2.trans k.2.2⟩))
   obtain ⟨r0, r1⟩ : w2.cell? ⟨w.heap.size + 2, 0, none⟩ = some (.string ⟨#[]⟩) ∧ w2.cell? ⟨w.heap.size + 2, 1, none⟩ = some (.slice none 0 0) := ⟨HK2.out.2.1.cell rfl, HK2.out.2.1.cell rfl⟩
   have f0 : w2.frozen? ⟨w.heap.size + 2, 0, none⟩ = false := heap_frozen HK2.out.2.1
   have f1 : w2.frozen? ⟨w.heap.size + 2, 1, none⟩ = false := heap_frozen HK2.out.2.1
   have HBe := Lib.hid (below_set1 (below_set1 HB2.out (w.heap.size + 2) 0 (by omega) (.string ⟨#[]⟩)) (w.heap.size + 2) 1 (by omega) (.slice none 0 0))
   go_wp2_with fail
   refine bodyPost_ret (v := .tuple #[.agg #[.string ⟨#[]⟩, .slice none 0 0], .int .i64 2]) (by simp only [results, Tryz.results8]; go_simp) rfl ?_
   exact ApP.no HE.out (by decide) HBe.out
  ·have hq := of_decide_eq_true HZ.out
   have HG := Lib.hid (show enE T C en l = 0 ∧ Nam.cleanV en = en ∧ nmL T (nf l) = l from ⟨HC.out, HNe.out.1.symm.trans hq.1, HNe.out.2.symm.trans hq.2⟩)
   have HNo := Lib.hid (show nameB en = false by have := clean_no_name HPt.out.1; rwa [HG.out.2.1] at this)
   obtain ⟨hq1, hq2⟩ := hq
   subst hq1 hq2
   by_cases hml : 32 < mn
   ·have d3 : decide (32 < (mn : Int)) = true := decide_eq_true (by omega)
    have d4 : (mn : Int) > 32 := by omega
    have HE := Lib.hid (ap_lim (ms := ms) HG.out (by rw [HMl.out]; exact hml))
    obtain ⟨r0, r1⟩ : w2.cell? ⟨w.heap.size + 2, 0, none⟩ = some (.string ⟨#[]⟩) ∧ w2.cell? ⟨w.heap.size + 2, 1, none⟩ = some (.slice none 0 0) := ⟨HK2.out.2.1.cell rfl, HK2.out.2.1.cell rfl⟩
    have f0 : w2.frozen? ⟨w.heap.size + 2, 0, none⟩ = false := heap_frozen HK2.out.2.1
    have f1 : w2.frozen? ⟨w.heap.size + 2, 1, none⟩ = false := heap_frozen HK2.out.2.1
    have HBe := Lib.hid (below_set1 (below_set1 HB2.out (w.heap.size + 2) 0 (by omega) (.string ⟨#[]⟩)) (w.heap.size + 2) 1 (by omega) (.slice none 0 0))
    go_wp2_with fail
    refine bodyPost_ret (v := .tuple #[.agg #[.string ⟨#[]⟩, .slice none 0 0], .int .i64 3]) (by simp only [results, Tryz.results8]; go_simp) rfl ?_
    exact ApP.no HE.out (by decide) HBe.out
   ·have d3 : decide (32 < (mn : Int)) = false := decide_eq_false (by omega)
    have d4 : ¬ (mn : Int) > 32 := by omega
    have HLm := Lib.hid (show ¬ 32 < ms.length by rw [HMl.out]; exact hml)
    have HI := Lib.hid (show ApI T nn nl ms w b8 (.cells #[.slice to tn tc, .slice co cn cc] 25) 0 no n1 nc nl w2 from
     ⟨HK2.out.1, HK2.out.2.1, HK2.out.2.2, HNA2.out, HPt.out.2.1, rfl, HB2.out, by omega⟩)
    clear HK2 HNA2 HB2 hb8 HB1
    go_wp2_with fail
    go_loopw [9, 11, 34] (fun _ _ s34 wr => ∃ (i : Nat) (ko : Option Addr) (kn kc : Nat) (k : List At), i ≤ mn ∧ s34 = .int .i64 i ∧ Hid (ApI T nn nl ms w b8 (.cells #[.slice to tn tc, .slice co cn cc] 25) i ko kn kc k wr)) (fun _ _ s34 _ => mn - (intOf s34).toNat)
    case atStart => exact ⟨0, no, n1, nc, nl, Nat.zero_le _, rfl, HI⟩
    case round =>
     clear HI
     obtain ⟨i, ko, kn, kc, k, hi, rfl, HI⟩ := hrel
     have hbg := HI.out.big
     by_cases hlt : i < mn
     ·have d1 : (i : Int) < (mn : Int) := by omega
      obtain ⟨mb, moff, rfl, hmb, hmm⟩ := (HM.out.below HI.out.low).2.2.2 (by omega)
      obtain ⟨a0, a1, vo, vn, vc, a2, hst⟩ := hmm i hlt
      clear hmm
      have hmem : mdD ms i ∈ ms := md_mem (by rw [HMl.out]; exact hlt)
      have HNx := Lib.hid (fun (W : World) (ro : Option Addr) (rn rc : Nat) (r : List At) (hW : ApI T nn nl ms w b8 (.cells #[.slice to tn tc, .slice co cn cc] 25) i ko kn kc k W) => hW.next (by rw [HMl.out]; exact hlt) HNo.out (ro := ro) (rn := rn) (rc := rc) (r := r))
      have HRun := Lib.hid (show modsR T nl ms = modsR T k (mdD ms i :: ms.drop (i + 1)) by rw [HI.out.run, md_drop (by rw [HMl.out]; exact hlt)])
      have hz1 := hSm.nm _ hmem
      have hz2 := hSm.vl _ hmem
      have hz3 := hSm.vs _ hmem
      obtain ⟨⟨op, nm, vs⟩, hmd⟩ : ∃ x, mdD ms i = x := ⟨_, rfl⟩
      rw [hmd] at a0 a1 hst HNx HRun hz1 hz2 hz3
      simp only at a0 a1 hst hz1 hz2 hz3
      have hvn := hst.1
      rw [hvn] at hz2
      have HZ3 := Lib.hid hz3
      have HSt := Lib.hid hst
      clear hmd hmem hvn hz3 hst
      have hbl := below_al wr (.cells #[.int .i64 op, .string nm, .slice vo vn vc] 57)
      have HI4 := Lib.hid (HI.out.below hbl)
      have HMk := Lib.hid (HMd.out (wr.alloc (.cells #[.int .i64 op, .string nm, .slice vo vn vc] 57)) HI4.out.low ko kn kc k op nm vo vn vc vs HI4.out.at' (HSt.out.below hbl) (chk_light HI.out.chk) HZ3.out hz2 hz1)
      unfold MdP at HMk
      obtain ⟨⟨r, c⟩, hrc⟩ : ∃ x, modR T k ⟨op, nm, vs⟩ = x := ⟨_, rfl⟩
      rw [hrc] at HMk
      have HRC := Lib.hid hrc
      obtain ⟨q0, q1⟩ : (wr.alloc (.cells #[.int .i64 op, .string nm, .slice vo vn vc] 57)).cell? ⟨w.heap.size, 0, none⟩ = some (.slice to tn tc) ∧ (wr.alloc (.cells #[.int .i64 op, .string nm, .slice vo vn vc] 57)).cell? ⟨w.heap.size, 1, none⟩ = some (.slice co cn cc) := ⟨HI4.out.kS.cell rfl, HI4.out.kS.cell rfl⟩
      obtain ⟨k0, k1⟩ : (wr.alloc (.cells #[.int .i64 op, .string nm, .slice vo vn vc] 57)).cell? ⟨b8, 0, none⟩ = some (.string nn) ∧ (wr.alloc (.cells #[.int .i64 op, .string nm, .slice vo vn vc] 57)).cell? ⟨b8, 1, none⟩ = some (.slice ko kn kc) := ⟨HI4.out.kN.cell rfl, HI4.out.kN.cell rfl⟩
      clear hbl hrc
      go_wp2_with fail
      refine HMk.out.mono ?_
      rintro e w5 ⟨_, rfl, ⟨ro, rn, rc, rfl, hr⟩, hb⟩
      have HI5 := Lib.hid (HI4.out.below hb)
      have HR5 := Lib.hid hr
      have f9 : w5.frozen? ⟨b8, 1, none⟩ = false := heap_frozen HI5.out.kN
      clear hb hr q0 q1 k0 k1 a0 a1 a2
      obtain ⟨k0, k1⟩ : w5.cell? ⟨b8, 0, none⟩ = some (.string nn) ∧ w5.cell? ⟨b8, 1, none⟩ = some (.slice ko kn kc) := ⟨HI5.out.kN.cell rfl, HI5.out.kN.cell rfl⟩
      by_cases h0 : c = 0
      ·subst h0
       have HI6 := Lib.hid (HNx.out w5 ro rn rc r HI5.out HR5.out HRC.out)
       go_wp2_with fail
       go_roundw
       case rel => exact ⟨i + 1, ro, rn, rc, r, by omega, by go_num, HI6⟩
       case measure => simp [intOf]; omega
      ·have d5 : (c != 0) = true := by simpa using h0
       have HE := Lib.hid (ap_mod (ms := ms) HG.out HLm.out (HRun.out.trans (mods_no (by rw [HRC.out]) h0)) h0)
       have HR6 := Lib.hid (show Kb (w5.setCell ⟨b8, 1, none⟩ (.slice ro rn rc)) (w.heap.size + 2) (.cells #[.string ⟨#[]⟩, .slice none 0 0] 28) from HI5.out.kR.set _ _ (by show w.heap.size + 2 ≠ b8; omega))
       have HL6 := Lib.hid (show Below w.heap.size w (w5.setCell ⟨b8, 1, none⟩ (.slice ro rn rc)) from HI5.out.low.setCell (p := ⟨b8, 1, none⟩) (by show w.heap.size ≤ b8; omega) _)
       obtain ⟨r0, r1⟩ : (w5.setCell ⟨b8, 1, none⟩ (.slice ro rn rc)).cell? ⟨w.heap.size + 2, 0, none⟩ = some (.string ⟨#[]⟩) ∧ (w5.setCell ⟨b8, 1, none⟩ (.slice ro rn rc)).cell? ⟨w.heap.size + 2, 1, none⟩ = some (.slice none 0 0) := ⟨HR6.out.cell rfl, HR6.out.cell rfl⟩
       have f0 : (w5.setCell ⟨b8, 1, none⟩ (.slice ro rn rc)).frozen? ⟨w.heap.size + 2, 0, none⟩ = false := heap_frozen HR6.out
       have f1 : (w5.setCell ⟨b8, 1, none⟩ (.slice ro rn rc)).frozen? ⟨w.heap.size + 2, 1, none⟩ = false := heap_frozen HR6.out
       have HBe := Lib.hid (below_set1 (below_set1 HL6.out (w.heap.size + 2) 0 (by omega) (.string ⟨#[]⟩)) (w.heap.size + 2) 1 (by omega) (.slice none 0 0))
       go_wp2_with fail
       refine bodyPost_ret (v := .tuple #[.agg #[.string ⟨#[]⟩, .slice none 0 0], .int .i64 c]) (by simp only [results, Tryz.results8]; go_simp) rfl ?_
       exact ApP.no HE.out h0 HBe.out
     ·obtain rfl : i = mn := by omega
      have d1 : ¬ (i : Int) < (i : Int) := by omega
      have HRun := Lib.hid (show modsR T nl ms = (k, 0) by rw [HI.out.run, List.drop_of_length_le (by rw [HMl.out]; exact Nat.le_refl _)]; rfl)
      have HVk := Lib.hid (HVd.out wr HI.out.low nn ko kn kc k HI.out.at' (chk_light HI.out.chk))
      obtain ⟨c, hc⟩ : ∃ c, vldE T C k = c := ⟨_, rfl⟩
      rw [hc] at HVk
      have HE := Lib.hid (ap_vld (ms := ms) HG.out HLm.out HRun.out hc)
      clear hc
      obtain ⟨q0, q1⟩ : wr.cell? ⟨w.heap.size, 0, none⟩ = some (.slice to tn tc) ∧ wr.cell? ⟨w.heap.size, 1, none⟩ = some (.slice co cn cc) := ⟨HI.out.kS.cell rfl, HI.out.kS.cell rfl⟩
      obtain ⟨k0, k1⟩ : wr.cell? ⟨b8, 0, none⟩ = some (.string nn) ∧ wr.cell? ⟨b8, 1, none⟩ = some (.slice ko kn kc) := ⟨HI.out.kN.cell rfl, HI.out.kN.cell rfl⟩
      go_wp2_with fail
      refine HVk.out.mono ?_
      rintro e w7 ⟨rfl, hb⟩
      have HI7 := Lib.hid (HI.out.below hb)
      clear hb q0 q1 k0 k1
      by_cases h0 : c = 0
      ·subst h0
       obtain ⟨k0, k1⟩ : w7.cell? ⟨b8, 0, none⟩ = some (.string nn) ∧ w7.cell? ⟨b8, 1, none⟩ = some (.slice ko kn kc) := ⟨HI7.out.kN.cell rfl, HI7.out.kN.cell rfl⟩
       obtain ⟨r0, r1⟩ : w7.cell? ⟨w.heap.size + 2, 0, none⟩ = some (.string ⟨#[]⟩) ∧ w7.cell? ⟨w.heap.size + 2, 1, none⟩ = some (.slice none 0 0) := ⟨HI7.out.kR.cell rfl, HI7.out.kR.cell rfl⟩
       have f0 : w7.frozen? ⟨w.heap.size + 2, 0, none⟩ = false := heap_frozen HI7.out.kR
       have f1 : w7.frozen? ⟨w.heap.size + 2, 1, none⟩ = false := heap_frozen HI7.out.kR
       have HBe := Lib.hid (below_set1 (below_set1 HI7.out.low (w.heap.size + 2) 0 (by omega) (.string nn)) (w.heap.size + 2) 1 (by omega) (.slice ko kn kc))
       have HAe := Lib.hid (atts_res HI7.out.kR HI7.out.at' HI7.out.chk HNo.out (.slice ko kn kc))
       go_wp2_with fail
       refine bodyPost_ret (v := .tuple #[.agg #[.string nn, .slice ko kn kc], .int .i64 0]) (by simp only [results, Tryz.results8]; go_simp) rfl ?_
       exact ApP.yes HE.out (by rw [HRun.out]) HAe.out HBe.out
      ·have d5 : (c != 0) = true := by simpa using h0
       obtain ⟨r0, r1⟩ : w7.cell? ⟨w.heap.size + 2, 0, none⟩ = some (.string ⟨#[]⟩) ∧ w7.cell? ⟨w.heap.size + 2, 1, none⟩ = some (.slice none 0 0) := ⟨HI7.out.kR.cell rfl, HI7.out.kR.cell rfl⟩
       have f0 : w7.frozen? ⟨w.heap.size + 2, 0, none⟩ = false := heap_frozen HI7.out.kR
       have f1 : w7.frozen? ⟨w.heap.size + 2, 1, none⟩ = false := heap_frozen HI7.out.kR
       have HBe := Lib.hid (below_set1 (below_set1 HI7.out.low (w.heap.size + 2) 0 (by omega) (.string ⟨#[]⟩)) (w.heap.size + 2) 1 (by omega) (.slice none 0 0))
       go_wp2_with fail
       refine bodyPost_ret (v := .tuple #[.agg #[.string ⟨#[]⟩, .slice none 0 0], .int .i64 c]) (by simp only [results, Tryz.results8]; go_simp) rfl ?_
       exact ApP.no HE.out h0 HBe.out
 ·have d1 : (c != 0) = true := by simpa using h0
  have HE := Lib.hid (ap_arg (T := T) (cs := C) (en := en) (l := l) (ms := ms) (fun k => h0 (HC.out.symm.trans k.1)))
  clear hb8
  obtain ⟨r0, r1⟩ : (w1.alloc (.cells #[.string nn, .slice no n1 nc] 28)).cell? ⟨w.heap.size + 2, 0, none⟩ = some (.string ⟨#[]⟩) ∧ (w1.alloc (.cells #[.string nn, .slice no n1 nc] 28)).cell? ⟨w.heap.size + 2, 1, none⟩ = some (.slice none 0 0) := ⟨HK1.out.2.2.1.cell rfl, HK1.out.2.2.1.cell rfl⟩
  have f0 : (w1.alloc (.cells #[.string nn, .slice no n1 nc] 28)).frozen? ⟨w.heap.size + 2, 0, none⟩ = false := heap_frozen HK1.out.2.2.1
  have f1 : (w1.alloc (.cells #[.string nn, .slice no n1 nc] 28)).frozen? ⟨w.heap.size + 2, 1, none⟩ = false := heap_frozen HK1.out.2.2.1
  have HBe := Lib.hid (below_set1 (below_set1 HB1.out (w.heap.size + 2) 0 (by omega) (.string ⟨#[]⟩)) (w.heap.size + 2) 1 (by omega) (.slice none 0 0))
  go_wp2_with fail
  refine bodyPost_ret (v := .tuple #[.agg #[.string ⟨#[]⟩, .slice none 0 0], .int .i64 2]) (by simp only [results, Tryz.results8]; go_simp) rfl ?_
  exact ApP.no HE.out (by decide) HBe.out
end Go.Proofs.YtonfkhkalodldabGreatDoor
end

section
set_option maxRecDepth 100000
namespace Go.Proofs.YtonfkhkalodldabGreatDoor
open Go.RowKit Go.PlainAid Go.Maps
structure VnM (W : World) (base b N : Nat) (f : ByteArray → Option Value) (l : List At) : Prop where
 map : RawMap W b N f
 few : N ≤ 40
 is : ∀ k, (f k).isSome = memB (names l) k
 own : ∀ k v, f k = some v → W.ownsRow base 9 1 v (vals l k).length (scells (vals l k))
theorem VnM.below {W V : World} {base b N : Nat} {f : ByteArray → Option Value} {l : List At} (h : VnM W base b N f l) (hb : Below W.heap.size W V) : VnM V base b N f l :=
 ⟨h.map.below hb h.map.lt, h.few, h.is, fun k v e => own_below (h.own k v e) hb⟩
structure VnI (w : World) (b base : Nat) (v : Value) (U : List Tr) (K : List ByteArray) (i : Nat) (f : ByteArray → Option Value) (wr : World) : Prop where
 map : RawMap wr b i f
 row : wr.ownsRow base 41 2 v U.length (tcells U)
 own : TOwn wr base v U
 is : ∀ k, (f k).isSome = memB (K.take i) k
 of : ∀ k u, f k = some u → ∃ t ∈ U, t.1 = k ∧ t.2.1 = u
 low : Below w.heap.size w wr
 lt : b < base
theorem VnI.below {w wr V : World} {b base : Nat} {v : Value} {U : List Tr} {K : List ByteArray} {i : Nat} {f : ByteArray → Option Value} (h : VnI w b base v U K i f wr) (hb : Below wr.heap.size wr V) : VnI w b base v U K i f V :=
 ⟨h.map.below hb h.map.lt, own_below h.row hb, h.own.below hb, h.is, h.of, h.low.trans (hb.mono h.low.size), h.lt⟩
theorem VnI.next {w wr : World} {b base : Nat} {v : Value} {U : List Tr} {K : List ByteArray} {i : Nat} {f : ByteArray → Option Value} (h : VnI w b base v U K i f wr) (hb : w.heap.size ≤ b) (hi : i < K.length) {k : ByteArray} (hk : partAt K i = k) (hks : k.size ≤ maxLen) (hn : i < maxLen) {u : Value} (hu : ∃ t ∈ U, t.1 = k ∧ t.2.1 = u) :
  ∃ w', (Instr.mapUpdate 63 (.map (some b)) (.string k) u).run Tryz.prog wr = .ok () w' ∧ VnI w b base v U K (i + 1) (setO f k u) w' := by
 obtain ⟨w', hr, hm, hg⟩ := h.map.store (t := 63) (e := 38) Tryz.underlying63 hn k hks u
 have hne : ∀ {x : Value} {n size : Nat} {e : TypeId} {xs : List Value}, wr.ownsRow base e size x n xs → x.ownBlock = none ∨ x.ownBlock ≠ some b := fun {x n size e xs} hx => by
  cases q : x.ownBlock with
  | none => exact .inl rfl
  | some g => exact .inr fun e => by have := (hx.lt g q).1; have := h.lt; have := Option.some.inj e; omega
 refine ⟨w', hr, hm, h.row.kept hg (hne h.row), fun t ht => ⟨(h.own t ht).1.kept hg (hne (h.own t ht).1), (h.own t ht).2⟩, fun j => ?_, fun j x e => ?_, h.low.grown hg h.low.size (fun q hq => by cases hq; exact hb), h.lt⟩
 ·rw [take_snoc K i hi, hk, memB_snoc]
  unfold setO
  by_cases e : j = k
  ·rw [if_pos e, e]; simp
  ·rw [if_neg e, h.is j]
   have : ¬ k = j := fun q => e q.symm
   simp [this]
 ·unfold setO at e
  by_cases q : j = k
  ·rw [if_pos q] at e
   obtain rfl := Option.some.inj e
   rw [q]; exact hu
  ·rw [if_neg q] at e; exact h.of j x e
def VnP (l : List At) (w : World) (e : Ending) (w' : World) : Prop := ∃ b N f, e = .returned (.map (some b)) ∧ w.heap.size ≤ b ∧ VnM w' w.heap.size b N f l ∧ Below w.heap.size w w'
set_option maxHeartbeats 8000000 in
theorem valuesByName_s (ao : Option Addr) (n cap : Nat) (l : List At) (w : World) (ha : AttrsAt w ao n cap l) (hl : LightE l) (hf : LightE (nf l)) :
  Calls Tryz.prog 27 #[.slice ao n cap] w fun e w' => VnP l w e w' := by
 have hb0 := below_al w (.map #[] 0)
 have HM0 := Lib.hid (raw_made w)
 have HSo := Lib.hid (sorted_s ao n cap l _ (ha.below hb0) hl.few)
 have HB0 := Lib.hid hb0
 have hs0 : (w.alloc (.map #[] 0)).heap.size = w.heap.size + 1 := by simp
 have hmm := @run_makeMap Tryz.prog
 clear hb0 ha
 go_enter Tryz.func27, Tryz.ntmps27
 go_wp2_with fail
 clear hmm
 refine HSo.out.mono ?_
 rintro e w2 ⟨v, U, rfl, hU, hO, _, hrow, hb⟩
 obtain ⟨so, sc, rfl⟩ := row_slice hrow
 have hUl : (names l).length = U.length := by rw [← nf_lenN, ← hU, tats_len]
 have HI := Lib.hid (show VnI w w.heap.size (w.heap.size + 1) (.slice so U.length sc) U (names l) 0 (fun _ => none) w2 from
  ⟨HM0.out.below hb (by simp), by rw [← hs0]; exact hrow, by rw [← hs0]; exact hO, (fun k => rfl), (fun k u e => by cases e), HB0.out.trans (hb.mono HB0.out.size), Nat.lt_succ_self _⟩)
 have HU := Lib.hid hU
 obtain ⟨m, hm⟩ : ∃ m, U.length = m := ⟨_, rfl⟩
 have hm40 : m ≤ 40 := by have := hf.len; rw [nf_lenN] at this; omega
 rw [hm] at hUl HI ⊢
 have HM := Lib.hid (And.intro hm hUl)
 have HF := Lib.hid hf
 clear hb hU hO hrow hm hUl HSo HM0 HB0 hs0 hf
 go_wp2_with fail
 go_loopw [5, 10] (fun _ s10 wr => ∃ (i : Nat) (f : ByteArray → Option Value), i ≤ m ∧ s10 = .int .i64 i ∧ Hid (VnI w w.heap.size (w.heap.size + 1) (.slice so m sc) U (names l) i f wr)) (fun _ s10 _ => m - (intOf s10).toNat)
 case atStart => exact ⟨0, _, Nat.zero_le _, rfl, HI⟩
 case round =>
  clear HI
  obtain ⟨i, f, hi, rfl, HI⟩ := hrel
  by_cases hlt : i < m
  ·have d1 : (i : Int) < (m : Int) := by omega
   obtain ⟨g, rfl⟩ : ∃ g, so = some ⟨g, 0, none⟩ := by
    have hr := HI.out.row
    rw [HM.out.1] at hr
    rcases hr.2 with ⟨e, _⟩ | ⟨g, cp, cur, e, _⟩
    ·simp only [Value.slice.injEq] at e
     omega
    ·simp only [Value.slice.injEq] at e
     exact ⟨g, e.1⟩
   have hiU : i < U.length := by rw [HM.out.1]; exact hlt
   have hmem : U.getD i default ∈ U := by
    rw [List.getD_eq_getElem?_getD, List.getElem?_eq_getElem hiU]; exact List.getElem_mem _
   have hnm : partAt (names l) i = (U.getD i default).1 := by
    have h1 := tats_at hiU
    rw [HU.out, nf_atD l i (by rw [nf_lenN, HM.out.2]; exact hlt)] at h1
    exact (Prod.mk.inj h1).1
   have hsz := (HF.out.each _ (show atD (nf l) i ∈ nf l by rw [at_get (nf l) i (by rw [nf_lenN, HM.out.2]; exact hlt)]; exact List.getElem_mem _)).nm
   rw [nf_atD l i (by rw [nf_lenN, HM.out.2]; exact hlt)] at hsz
   simp only at hsz
   obtain ⟨t1, t2⟩ := etc_at hiU
   have c1 := HI.out.row.cells (g := g) rfl _ _ t1
   have c2 := HI.out.row.cells (g := g) rfl _ _ t2
   rw [Go.WideShapes.add_plain, Nat.zero_add] at c1 c2
   obtain ⟨vo, vc, ev, _⟩ := strs_own (HI.out.own _ hmem).1 rfl
   rw [ev] at c2
   have hbl := below_al wr (.cells #[.string (U.getD i default).1, .slice vo (U.getD i default).2.2.length vc] 41)
   obtain ⟨w5, hrun, hI5⟩ := (HI.out.below hbl).next (Nat.le_refl _) (by rw [HM.out.2]; exact hlt) hnm (by rw [← hnm]; unfold maxLen; omega) (by unfold maxLen; omega) (u := .slice vo (U.getD i default).2.2.length vc) ⟨_, hmem, rfl, ev⟩
   have HI5 := Lib.hid hI5
   obtain ⟨nm, hnm2⟩ : ∃ x, (U.getD i default).1 = x := ⟨_, rfl⟩
   obtain ⟨vn, hvn⟩ : ∃ x, (U.getD i default).2.2.length = x := ⟨_, rfl⟩
   rw [hnm2, hvn] at hrun HI5
   rw [hnm2] at c1
   rw [hvn] at c2
   clear hmem hnm t1 t2 ev hbl hI5 hnm2 hvn hsz hiU
   go_wp2_with fail
   go_roundw
   case rel => exact ⟨i + 1, _, by omega, by go_num, HI5⟩
   case measure => simp [intOf]; omega
  ·obtain rfl : i = m := by omega
   have d1 : ¬ (i : Int) < (i : Int) := by omega
   go_wp2_with fail
   go_ret
   refine ⟨w.heap.size, i, f, rfl, Nat.le_refl _, ⟨HI.out.map, hm40, fun k => ?_, fun k v e => ?_⟩, HI.out.low⟩
   ·have := HI.out.is k
    rwa [← HM.out.2, List.take_length] at this
   ·obtain ⟨t, ht, rfl, rfl⟩ := HI.out.of k v e
    have h1 : (t.1, t.2.2) ∈ nf l := by rw [← HU.out]; exact List.mem_map.2 ⟨t, ht, rfl⟩
    have h2 : t.2.2 = vals l t.1 := (nf_mem.1 h1).1
    rw [← h2]
    exact row_lower (HI.out.own t ht).1 (Nat.le_succ _)
end Go.Proofs.YtonfkhkalodldabGreatDoor
end

section
set_option maxRecDepth 100000
namespace Go.Proofs.YtonfkhkalodldabGreatDoor
open Go.RowKit Go.PlainAid
def minusL (a b : List ByteArray) : List ByteArray := a.filter fun v => !memB b v
theorem minus_take (a b : List ByteArray) (k : Nat) (h : k < a.length) : minusL (a.take (k + 1)) b = minusL (a.take k) b ++ (if memB b (partAt a k) = true then [] else [partAt a k]) := by
 unfold minusL
 rw [take_snoc a k h, List.filter_append]
 congr 1
 cases e : memB b (partAt a k) <;> simp [e]
theorem minus_len (a b : List ByteArray) : (minusL a b).length ≤ a.length := List.length_filter_le _ _
theorem containsS_s (ao : Option Addr) (n cap : Nat) (vs : List ByteArray) (x : ByteArray) (w : World) (hs : StrsAt w ao n cap vs) :
  Calls Tryz.prog 106 #[.slice ao n cap, .string x] w fun e w' => e = .returned (.bool (memB vs x)) ∧ w' = w := by
 by_cases h0 : 0 < n
 ·obtain ⟨b, off, rfl, hi⟩ := hs.2.2.2 h0
  refine (AnyG.slices_Contains_string Tryz.contains b off n cap vs x w (by rw [hs.1]; exact Nat.le_refl _) (Nat.le_trans hs.2.1 hs.2.2.1) (fun j hj => hi.2 j hj)).mono ?_
  rintro e w' ⟨rfl, rfl⟩
  rw [List.take_of_length_le (by rw [hs.1]; exact Nat.le_refl _), contains_mem]
  exact ⟨rfl, rfl⟩
 ·obtain rfl : n = 0 := by omega
  have e0 : vs = [] := List.length_eq_zero_iff.1 hs.1
  subst e0
  exact AnyG.slices_Contains_string_empty Tryz.contains ao cap x w
set_option maxHeartbeats 4000000 in
theorem without_s (ao bo : Option Addr) (n m cap dap : Nat) (a b : List ByteArray) (w : World) (h : StrsAt w ao n cap a) (k : StrsAt w bo m dap b) (hn : n ≤ 1100000) :
  Calls Tryz.prog 62 #[.slice ao n cap, .slice bo m dap] w fun e w' => ∃ v, e = .returned v ∧ w'.ownsRow w.heap.size 9 1 v (minusL a b).length (scells (minusL a b)) ∧ Below w.heap.size w w' := by
 have HA := Lib.hid h
 have HK := Lib.hid k
 have HL := Lib.hid h.1
 have hcap := h.2.1
 have hmx := h.2.2.1
 unfold maxLen at hmx
 clear h k
 go_enter Tryz.func62, Tryz.ntmps62
 go_wp2_with fail
 go_loopw [5, 7, 10] (fun s5 _ s10 wr => ∃ (i : Nat), i ≤ n ∧ s10 = .int .i64 i ∧ wr.ownsRow w.heap.size 9 1 s5 (minusL (a.take i) b).length (scells (minusL (a.take i) b)) ∧ Hid (Below w.heap.size w wr)) (fun _ _ s10 _ => n - (intOf s10).toNat)
 case atStart => exact ⟨0, Nat.zero_le _, rfl, World.ownsRow_nil _ _ _ _, Lib.hid (Below.refl _ _)⟩
 case round =>
  obtain ⟨i, hi, rfl, hown, HB⟩ := hrel
  by_cases hlt : i < n
  ·have d1 : (i : Int) < (n : Int) := by omega
   obtain ⟨g, off, rfl, hg, hc⟩ := (HA.out.below HB.out).2.2.2 (by omega)
   have hcell := hc i (by rw [HL.out]; exact hlt)
   clear hc
   have HT := Lib.hid (minus_take a b i (by rw [HL.out]; exact hlt))
   obtain ⟨p, hp⟩ : ∃ x, partAt a i = x := ⟨_, rfl⟩
   rw [hp] at hcell HT
   clear hp
   have HC := Lib.hid (containsS_s bo m dap b p wr (HK.out.below HB.out))
   obtain ⟨z, hz⟩ : ∃ z, memB b p = z := ⟨_, rfl⟩
   rw [hz] at HC HT
   clear hz
   have hql : (minusL (a.take i) b).length ≤ 1100000 := by have := minus_len (a.take i) b; rw [List.length_take] at this; omega
   have hsz := HB.out.size
   go_wp2_with fail
   refine HC.out.mono ?_
   rintro e w1 ⟨rfl, rfl⟩
   cases z
   ·go_wp2_with (at_builtin; go_must (refine push_str w1 hown (.tmp 18) (.tmp 20) p ?_ ?_ ?_ ?_ ?_ ?_ ?_; exact rfl; exact rfl; exact rfl; exact rfl; omega; exact hsz; intro v3 w3 hown3 hb3))
    go_roundw
    case rel => exact ⟨i + 1, by omega, by go_num, by rw [HT.out, if_neg (by decide), List.length_append]; simpa [scells] using hown3, Lib.hid (HB.out.trans hb3)⟩
    case measure => simp [intOf]; omega
   ·go_wp2_with fail
    go_roundw
    case rel => exact ⟨i + 1, by omega, by go_num, by rw [HT.out]; simpa using hown, HB⟩
    case measure => simp [intOf]; omega
  ·obtain rfl : i = n := by omega
   have d1 : ¬ (i : Int) < (i : Int) := by omega
   rw [show a.take i = a by rw [← HL.out]; exact List.take_length] at hown
   go_wp2_with fail
   go_ret
   exact ⟨_, rfl, hown, HB.out⟩
/-! ### the modifications of one attribute -/
def dif1 (nm : ByteArray) (bf af : List ByteArray) : List Md :=
 if af.length = 0 then [⟨2, nm, []⟩]
 else if 0 < bf.length ∧ (minusL bf af).length = bf.length then [⟨3, nm, minusL af bf⟩]
 else if 0 < (minusL bf af).length then ⟨2, nm, minusL bf af⟩ :: (if (minusL af bf).length = 0 then [] else [⟨1, nm, minusL af bf⟩])
 else if 0 < (minusL af bf).length then [⟨1, nm, minusL af bf⟩] else []
structure Mv where
 md : Md
 hd : Value
instance : Inhabited Mv := ⟨⟨default, .slice none 0 0⟩⟩
def mvC (m : Mv) : List Value := [.int .i64 m.md.op, .string m.md.name, m.hd]
def mcells (l : List Mv) : List Value := l.flatMap mvC
def mmds (l : List Mv) : List Md := l.map (·.md)
theorem mcells_len (l : List Mv) : (mcells l).length = l.length * 3 := flat_len mvC 3 (fun _ => rfl) l
def MOwn (w : World) (base : Nat) (v : Value) (T : List Mv) : Prop := ∀ t ∈ T, w.ownsRow base 9 1 t.hd t.md.vs.length (scells t.md.vs) ∧ (t.hd.ownBlock = none ∨ t.hd.ownBlock ≠ v.ownBlock)
theorem MOwn.below {w w' : World} {base : Nat} {v : Value} {T : List Mv} (h : MOwn w base v T) (hb : Below w.heap.size w w') : MOwn w' base v T := fun t ht => ⟨own_below (h t ht).1 hb, (h t ht).2⟩
theorem MOwn.mono {w : World} {base base' : Nat} {v : Value} {T : List Mv} (h : MOwn w base v T) (hb : base' ≤ base) : MOwn w base' v T := fun t ht => ⟨(h t ht).1.mono hb, (h t ht).2⟩
theorem MOwn.app {w : World} {base : Nat} {v : Value} {T U : List Mv} (h : MOwn w base v T) (k : MOwn w base v U) : MOwn w base v (T ++ U) := fun t ht => (List.mem_append.1 ht).elim (h t) (k t)
theorem MOwn.grown {w w' : World} {base : Nat} {v v' : Value} {T : List Mv} (h : MOwn w base v T) (hg : w.grownBy w' v.ownBlock) (hl : v'.ownBlock = v.ownBlock ∨ ∃ g, v'.ownBlock = some g ∧ w.heap.size ≤ g) : MOwn w' base v' T := fun t ht => by
 obtain ⟨h1, h2⟩ := h t ht
 refine ⟨h1.kept hg h2, ?_⟩
 cases hb : t.hd.ownBlock with
 | none => exact .inl rfl
 | some g =>
  refine .inr fun e => ?_
  rcases hl with k | ⟨q, k, hq⟩
  ·rcases h2 with h2 | h2
   ·rw [hb] at h2; cases h2
   ·exact h2 (hb.trans (e.trans k))
  ·have := (h1.lt g hb).2
   have := Option.some.inj (e.trans k)
   omega
theorem info_mod : (Tryz.prog.info? 57).map (fun i => (i.zero, i.size, i.bytes)) = some (some (.agg #[.int .i64 0, .string ⟨#[]⟩, .slice none 0 0]), 3, 48) := by kernel_rfl
theorem mcells_one {l : List Mv} (h : ∀ m ∈ l, m.hd.oneCell' = true) : ∀ u ∈ mcells l, u.oneCell' = true := by
 intro u hu
 obtain ⟨c, hc, hu⟩ := List.mem_flatMap.1 hu
 simp only [mvC, List.mem_cons, List.not_mem_nil, or_false] at hu
 rcases hu with rfl | rfl | rfl
 ·rfl
 ·rfl
 ·exact h c hc
theorem push_mod {ops : Array Oper} {rest : List Oper} {o : Oper} {a : Act} {Q : Exit → Act → World → Prop} (wr : World) {base : Nat} {v : Value} {n : Nat} {xs : List Value} (hown : wr.ownsRow base 57 3 v n xs) (s x : Operand)
  (op : Int) (nm : ByteArray) (hd : Value) (hone : hd.oneCell' = true) (hgd : o.guard = none)
  (ho : o.op = .call { callee := .builtin .append, args := #[s, x], argTypes := #[29, 29] })
  (hs : a.eval s = v) (hx : a.eval x = .slice (some ⟨wr.heap.size, 0, none⟩) 1 1) (hn : n + 1 ≤ 1000000000) (hbase : base ≤ wr.heap.size)
  (h : ∀ v' w', w'.ownsRow base 57 3 v' (n + 1) (xs ++ [.int .i64 op, .string nm, hd]) → (wr.alloc (.cells #[.int .i64 op, .string nm, hd] 57)).grownBy w' v.ownBlock → (v'.ownBlock = v.ownBlock ∨ ∃ g, v'.ownBlock = some g ∧ wr.heap.size < g) → wpList Tryz.prog ops Q rest (a.put o.dst v') w') :
  wpList Tryz.prog ops Q (o :: rest) a (wr.alloc (.cells #[.int .i64 op, .string nm, hd] 57)) := by
 obtain ⟨i0, hi, hz0, hz1, hz2⟩ := info_parts info_mod
 refine wpList_append_own_at _ hgd s x 29 ho base 57 i0 (.agg #[.int .i64 0, .string ⟨#[]⟩, .slice none 0 0]) 3 48 Tryz.underlying29 hi hz0 hz1 hz2 rfl (by decide) v n xs hs (hown.alloc _) ⟨wr.heap.size, 0, none⟩ 1 1 [.int .i64 op, .string nm, hd] hx rfl
  (cells_three_new _ _ _ _ _) (by intro u hu; simp at hu; rcases hu with rfl | rfl | rfl; rfl; rfl; exact hone) (by unfold maxLen; omega) (by omega) (by simp; omega) ?_
 intro v' w' h1 h2 _ h4
 refine h v' w' h1 h2 ?_
 rcases h4 with h4 | h4
 ·exact .inl h4
 ·exact .inr ⟨_, h4, by simp⟩
end Go.Proofs.YtonfkhkalodldabGreatDoor
end
