/-
  Contracts of the specification's Join, Within. Condition: at most 400000 numbers in each list.
-/
import Derived.Test.YtcnhkoijphfibaaDoorCsnR3
set_option maxRecDepth 100000
set_option linter.unusedVariables false
set_option linter.unusedSimpArgs false
set_option linter.unnecessarySimpa false
namespace Go.Proofs.YtcnhkoijphfibaaDoor
open Go.RowKit Go.PlainAid

set_option maxHeartbeats 16000000 in
theorem rwithin_s (ao bo : Option Addr) (n m cap dap : Nat) (l k : List Cn) (w : World) (h : CnsAt w ao n cap l) (hk : CnsAt w bo m dap k) :
    Calls Tryd.prog 35 #[.slice ao n cap, .slice bo m dap] w fun e w' => e = .returned (.bool (witC l k)) ∧ Below w.heap.size w w' := by
  have H := Lib.hid h
  have HK := Lib.hid hk
  clear h hk
  have HY := Lib.hid (fun (h : ∀ c ∈ vecO l, covC k c = true) => (witC_iff (a := l) (b := k)).2 h)
  have HN := Lib.hid (fun (c : Cn) (hc : c ∈ vecO l) (h : covC k c = false) => show witC l k = false by
    cases e : witC l k
    · rfl
    · rw [witC_iff.1 e c hc] at h; cases h)
  obtain ⟨g, hg⟩ : ∃ g, witC l k = g := ⟨_, rfl⟩
  rw [hg] at HY HN ⊢
  clear hg
  obtain ⟨v, hvv⟩ : ∃ v, vecO l = v := ⟨_, rfl⟩
  rw [hvv] at HY HN
  have HVV := Lib.hid hvv
  clear hvv
  go_enter Tryd.func35, Tryd.ntmps35
  go_wp2_with fail
  refine (rvector_s ao n cap l _ H.out).mono ?_
  rintro e w1 ⟨xo, q, xc, rfl, hw, hb⟩
  rw [HVV.out] at hw
  have hm : v.length = q := hw.1
  have hq : q ≤ maxLen := Nat.le_trans hw.2.1 hw.2.2.1
  unfold maxLen at hq
  have HV := Lib.hid hw
  have HB1 := Lib.hid hb
  have HK1 := Lib.hid (HK.out.below hb)
  clear hw hb HVV
  go_wp2_with fail
  go_loopw [6] (fun iv wr => ∃ i : Nat, i ≤ q ∧ iv = .int .i64 i ∧ Hid (∀ j, j < i → covC k (cnA v j) = true) ∧ Hid (Below w1.heap.size w1 wr)) (fun iv _ => q - (intOf iv).toNat)
  case atStart => exact ⟨0, Nat.zero_le _, rfl, Lib.hid (fun j hj => absurd hj (Nat.not_lt_zero _)), Lib.hid (Below.refl _ _)⟩
  case round =>
    obtain ⟨i, hi, rfl, HA, HB⟩ := hrel
    by_cases hlt : i < q
    · have d1 : (i : Int) < (q : Int) := by omega
      have i0 : (0 : Int) ≤ (i : Int) := by omega
      obtain ⟨b, off, rfl, _⟩ := HV.out.2.2.2.1 (by omega)
      obtain ⟨⟨x, y, z⟩, hp⟩ : ∃ p, cnA v i = p := ⟨_, rfl⟩
      obtain ⟨c0, c1, c2⟩ := cns_at (HV.out.below HB.out) hlt
      rw [hp] at c0 c1 c2
      dsimp only at c0 c1 c2
      have HX := Lib.hid hp
      clear hp
      obtain ⟨u, hu⟩ : ∃ u, covC k (x, y, z) = u := ⟨_, rfl⟩
      have HU := Lib.hid hu
      have HCl := Lib.hid (show Calls Tryd.prog 29 #[.slice bo m dap, .agg #[.int .i64 x, .int .i64 y, .int .i64 z]] wr (fun e w' => e = .returned (.bool u) ∧ Below wr.heap.size wr w') from hu ▸ rcovers_s bo m dap k (x, y, z) wr (HK1.out.below HB.out))
      clear hu
      have hvi : i < v.length := by omega
      have HM := Lib.hid (show (x, y, z) ∈ v by have := cn_mem hvi; rw [HX.out] at this; exact this)
      go_wp2_with fail
      refine HCl.out.mono ?_
      rintro e w2 ⟨rfl, hb⟩
      have HB2 := Lib.hid (HB.out.trans (hb.mono HB.out.size))
      clear hb c0 c1 c2
      cases u
      · have HF := Lib.hid (HN.out _ HM.out HU.out)
        have HL := Lib.hid (HB1.out.trans (HB2.out.mono HB1.out.size))
        go_wp2_with fail
        go_ret
        exact ⟨by rw [HF.out]; rfl, HL.out⟩
      · have HA2 := Lib.hid (fun j (hj : j < i + 1) => show covC k (cnA v j) = true from if e : j = i then by rw [e, HX.out]; exact HU.out else HA.out j (by omega))
        go_wp2_with fail
        go_roundw
        case rel => exact ⟨i + 1, by omega, by go_num, HA2, HB2⟩
        case measure => simp [intOf]; omega
    · have d1 : ¬ (i : Int) < (q : Int) := by omega
      have HF := Lib.hid (show g = true from (HY.out fun c hc => by
        obtain ⟨j, hj, rfl⟩ := List.mem_iff_getElem.1 hc
        have := HA.out j (by omega)
        rw [cn_get hj] at this
        exact this).symm ▸ rfl)
      have HL := Lib.hid (HB1.out.trans (HB.out.mono HB1.out.size))
      go_wp2_with fail
      go_ret
      exact ⟨by rw [HF.out]; rfl, HL.out⟩
theorem note_len (l : List Cn) (c : Cn) : (noteC l c).length ≤ l.length + 1 := by
  rw [← noteR_note]
  have h := vecO_len l
  unfold noteR
  split
  · omega
  · have h1 := List.length_filter_le (fun e : Cn => decide (e.2.2 < c.2.2)) (vecO l)
    have hd : ((vecO l).filter (fun e => decide (e.2.2 < c.2.2))).length + ((vecO l).filter (fun e => decide (c.2.2 < e.2.2))).length ≤ (vecO l).length := by
      generalize vecO l = k
      induction k with
      | nil => simp
      | cons e k ih =>
        by_cases p : e.2.2 < c.2.2
        · have q : ¬ c.2.2 < e.2.2 := by omega
          simp [p, q] at ih ⊢; omega
        · by_cases q : c.2.2 < e.2.2
          · simp [p, q] at ih ⊢; omega
          · simp [p, q] at ih ⊢; omega
    rw [List.length_append, List.length_cons]
    omega
theorem fold_take (m l : List Cn) (i : Nat) (h : i < m.length) : (m.take (i + 1)).foldl noteR l = noteR ((m.take i).foldl noteR l) (cnA m i) := by
  rw [take_cn m i h, List.foldl_append]; rfl
theorem fold_vec : ∀ (m l : List Cn), VecC l → VecC (m.foldl noteR l)
  | [], l, h => h
  | c :: m, l, h => fold_vec m _ (noteR_vec h c)
set_option maxHeartbeats 16000000 in
theorem rjoin_s (ao bo : Option Addr) (n m cap dap : Nat) (l k : List Cn) (w : World) (h : CnsAt w ao n cap l) (hk : CnsAt w bo m dap k) (hn : n ≤ 100000) (hm : m ≤ 100000) :
    Calls Tryd.prog 33 #[.slice ao n cap, .slice bo m dap] w fun e w' => ∃ xo q xc, e = .returned (.slice xo q xc) ∧ CnsAt w' xo q xc (joinC l k) ∧ Below w.heap.size w w' := by
  have H := Lib.hid h
  have HK := Lib.hid hk
  have hl1 := vecO_len l
  have hl2 := vecO_len k
  rw [h.1] at hl1
  rw [hk.1] at hl2
  clear h hk
  have HVl := Lib.hid (vecO_vec l)
  have HFo := Lib.hid (show (vecO k).foldl noteR (vecO l) = joinC l k from fold_note (vecO k) (vecO l) (vecO_vec l) (vecO_vec k).1)
  obtain ⟨R, hR⟩ : ∃ R, joinC l k = R := ⟨_, rfl⟩
  rw [hR] at HFo ⊢
  clear hR
  obtain ⟨x, hx⟩ : ∃ x, vecO l = x := ⟨_, rfl⟩
  obtain ⟨y, hy⟩ : ∃ y, vecO k = y := ⟨_, rfl⟩
  rw [hx] at HVl HFo hl1
  rw [hy] at HFo hl2
  have HX := Lib.hid hx
  have HY := Lib.hid hy
  clear hx hy
  have hown0 : (w.alloc (.cells #[] 23)).ownsRow w.heap.size 23 3 (.slice (some ⟨w.heap.size, 0, none⟩) 0 0) 0 [] := World.ownsRow_made w #[] 0 (Nat.le_refl _) (by unfold maxLen; omega) rfl
  have HO0 := Lib.hid hown0
  have HB0 := Lib.hid (box_below w (.cells #[] 23))
  clear hown0
  go_enter Tryd.func33, Tryd.ntmps33
  go_wp2_with fail
  generalize w.alloc (.cells #[] 23) = w0 at HO0 HB0 ⊢
  refine (rvector_s ao n cap l _ (H.out.below HB0.out)).mono ?_
  rintro e w1 ⟨xo, xn, xc, rfl, hw, hb⟩
  rw [HX.out] at hw
  have hxn : x.length = xn := hw.1
  have HVx := Lib.hid hw
  have HB1 := Lib.hid (HB0.out.trans (hb.mono HB0.out.size))
  have HO1 := Lib.hid (own_belowC HO0.out hb)
  clear hw hb HO0
  have hsz := HB1.out.size
  go_wp2_with (at_builtin; refine app_cns w1 HO1.out (.tmp 8) (.tmp 10) xo xn xc x ?_ ?_ ?_ ?_ ?_ ?_ ?_ ?_; exact rfl; exact rfl; exact rfl; exact rfl; exact HVx.out; omega; exact hsz; intro v2 w2 hown2 hb2)
  rw [List.nil_append, Nat.zero_add] at hown2
  obtain ⟨zo, zc, rfl, hat⟩ := cns_of_owns hown2
  have HZ := Lib.hid hat
  have HB2 := Lib.hid (HB1.out.trans hb2)
  clear hat hown2 hb2 HO1
  go_wp2_with fail
  refine (rvector_s bo m dap k _ (HK.out.below HB2.out)).mono ?_
  rintro e w3 ⟨yo, yn, yc, rfl, hw, hb⟩
  rw [HY.out] at hw
  have hyn : y.length = yn := hw.1
  have HVy := Lib.hid hw
  have HB3 := Lib.hid (HB2.out.trans (hb.mono HB2.out.size))
  have HZ3 := Lib.hid (HZ.out.below hb)
  clear hw hb HZ HVx
  go_wp2_with fail
  go_loopw [5, 7] (fun sv iv wr => ∃ (i zn : Nat) (zo : Option Addr) (zc : Nat) (P : List Cn), i ≤ yn ∧ iv = .int .i64 i ∧ zn ≤ xn + i ∧ sv = .slice zo zn zc ∧ Hid (P = (y.take i).foldl noteR x) ∧ Hid (VecC P) ∧ Hid (CnsAt wr zo zn zc P) ∧ Hid (Below w3.heap.size w3 wr)) (fun _ iv _ => yn - (intOf iv).toNat)
  case atStart => exact ⟨0, xn, zo, zc, x, Nat.zero_le _, rfl, Nat.le_refl _, rfl, Lib.hid rfl, HVl, HZ3, Lib.hid (Below.refl _ _)⟩
  case round =>
    clear HZ3
    obtain ⟨i, zn, zo, zc, P, hi, rfl, hzn, rfl, HP, HVP, HZ, HB⟩ := hrel
    by_cases hlt : i < yn
    · have d1 : (i : Int) < (yn : Int) := by omega
      have i0 : (0 : Int) ≤ (i : Int) := by omega
      obtain ⟨b, off, rfl, _⟩ := HVy.out.2.2.2.1 (by omega)
      obtain ⟨⟨t, s, r⟩, hp⟩ : ∃ p, cnA y i = p := ⟨_, rfl⟩
      obtain ⟨c0, c1, c2⟩ := cns_at (HVy.out.below HB.out) hlt
      rw [hp] at c0 c1 c2
      dsimp only at c0 c1 c2
      have HN := Lib.hid (show noteC P (t, s, r) = (y.take (i + 1)).foldl noteR x by
        rw [fold_take _ _ _ (by omega), hp, ← HP.out, ← noteR_note, vecO_self HVP.out])
      have HNv := Lib.hid (show VecC (noteC P (t, s, r)) by rw [← noteR_note, vecO_self HVP.out]; exact noteR_vec HVP.out _)
      have HNl := Lib.hid (note_len P (t, s, r))
      have HCl := Lib.hid (rnote_s zo zn zc P (t, s, r) wr HZ.out (by omega))
      dsimp only [cnV] at HCl
      have hpl : P.length = zn := HZ.out.1
      clear hp
      go_wp2_with fail
      refine HCl.out.mono ?_
      rintro e w4 ⟨uo, un, uc, rfl, hu, hb⟩
      have HB4 := Lib.hid (HB.out.trans (hb.mono HB.out.size))
      have hul := hu.1
      have hul2 := HNl.out
      have HU := Lib.hid hu
      clear hu hb c0 c1 c2 HCl
      go_wp2_with fail
      go_roundw
      case rel => exact ⟨i + 1, un, uo, uc, _, by omega, by go_num, by omega, rfl, HN, HNv, HU, HB4⟩
      case measure => simp [intOf]; omega
    · have d1 : ¬ (i : Int) < (yn : Int) := by omega
      have hPR : P = R := by rw [← HFo.out, HP.out, List.take_of_length_le (by omega)]
      have HZR := HZ
      rw [hPR] at HZR
      have HL := Lib.hid (HB3.out.trans (HB.out.mono HB3.out.size))
      clear hPR
      go_wp2_with fail
      go_ret
      exact ⟨zo, zn, zc, rfl, HZR.out, HL.out⟩

end Go.Proofs.YtcnhkoijphfibaaDoor
