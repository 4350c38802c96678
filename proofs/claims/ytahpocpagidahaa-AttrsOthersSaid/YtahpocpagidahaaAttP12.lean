/-
  Contract of attrs.Pick. Condition: as Sorted's; at most 1000000 names of at most 1000000 bytes.
-/
import Derived.Test.YtahpocpagidahaaAttP11
set_option linter.unusedVariables false
set_option linter.unusedSimpArgs false
set_option linter.unnecessarySimpa false
namespace Go.Proofs.Ytahpocpagidahaa
open Go.RowKit Go.PlainAid Go.Maps Go.ChangeMaps

theorem tats_filter (T : List Tr) (q : ByteArray → Bool) : tats (T.filter fun t => q t.1) = (tats T).filter fun a => q a.1 := by
  unfold tats
  rw [List.filter_map]; rfl
theorem delN_s (w : World) (bn bm mb N : Nat) (D : DataW Unit) (no : Option Addr) (nn nc : Nat) (ns : List ByteArray) (h : Sees w bn bm mb N D no nn nc ns) (hnn : ns.length = nn) :
    Calls Try.prog 52 #[.slice none 0 0, .func (.func 53) #[] #[.pointer (some ⟨bn, 0, none⟩), .pointer (some ⟨bm, 0, none⟩)]] w fun e w' => e = .returned (.slice none 0 0) ∧ Below w.heap.size w w' := by
  have HI := Lib.hid (idx_s none 0 0 [] w bn bm mb N D no nn nc ns (ts_nil w none 0 (by unfold maxLen; omega)) (fun t ht => (List.not_mem_nil ht).elim) h hnn (fun t ht => (List.not_mem_nil ht).elim))
  clear h
  go_enter Try.func52, Try.ntmps52
  go_wp2_with fail
  refine HI.out.mono ?_
  rintro e w1 ⟨k0, hk0, _, _, rfl, hb⟩
  rw [if_neg (by omega)]
  go_wp2_with fail
  go_ret
  exact ⟨rfl, hb⟩
theorem keep2g {w w1 w2 : World} {f g : Nat} {A B : Addr} {x y : Value} (h : w1.cell? A = some x ∧ w1.cell? B = some y ∧ Hid (Below f w w1 ∧ f ≤ w1.heap.size)) (hg : w1.grownBy w2 (some g)) (hA : A.block ≠ g) (hB : B.block ≠ g) (hf : f ≤ g) : w2.cell? A = some x ∧ w2.cell? B = some y ∧ Hid (Below f w w2 ∧ f ≤ w2.heap.size) :=
  ⟨hg.cell h.1 (fun e => hA (Option.some.inj e)), hg.cell h.2.1 (fun e => hB (Option.some.inj e)), Lib.hid ⟨h.2.2.out.1.grown hg h.2.2.out.2 (fun q hq => by have := Option.some.inj hq; omega), Nat.le_trans h.2.2.out.2 hg.size⟩⟩

set_option maxRecDepth 100000 in
set_option maxHeartbeats 8000000 in
theorem pick_s (ao no : Option Addr) (n cap nn nc : Nat) (l : List At) (ns : List ByteArray) (w : World) (h : AttrsAt w ao n cap l) (hN : StrsAt w no nn nc ns) (hF : Few l) (hS : SmallS ns) (hnn : nn ≤ 1000000) :
    Calls Try.prog 27 #[.slice ao n cap, .slice no nn nc] w fun e w' => ∃ v, e = .returned v ∧ AttsR w' v (pickL l ns) ∧ Below w.heap.size w w' := by
  have hnl : ns.length = nn := hN.1
  have HN := Lib.hid hN
  have HA := Lib.hid h
  have HS := Lib.hid hS
  clear hN h hS
  obtain ⟨W1, hW1⟩ : ∃ x, w.alloc (.cells #[.slice no nn nc] 29) = x := ⟨_, rfl⟩
  obtain ⟨W2, hW2⟩ : ∃ x, W1.alloc (.map #[] 0) = x := ⟨_, rfl⟩
  obtain ⟨W3, hW3⟩ : ∃ x, W2.alloc (.cells #[.map (some W1.heap.size)] 43) = x := ⟨_, rfl⟩
  have b1 : Below w.heap.size w W1 := by rw [← hW1]; exact (Below.refl _ w).alloc (Nat.le_refl _) _
  have b2 : Below W1.heap.size W1 W2 := by rw [← hW2]; exact (Below.refl _ W1).alloc (Nat.le_refl _) _
  have b3 : Below W2.heap.size W2 W3 := by rw [← hW3]; exact (Below.refl _ W2).alloc (Nat.le_refl _) _
  have n1 : W1.cell? ⟨w.heap.size, 0, none⟩ = some (.slice no nn nc) := by rw [← hW1]; exact cell_one_new _ _ _ 0 _ rfl
  have n3 := cell_later b3 (cell_later b2 n1)
  have m3 : W3.cell? ⟨W2.heap.size, 0, none⟩ = some (.map (some W1.heap.size)) := by rw [← hW3]; exact cell_one_new _ _ _ 0 _ rfl
  have hs1 : W1.heap.size = w.heap.size + 1 := by rw [← hW1]; simp
  have hs2 : W2.heap.size = w.heap.size + 1 + 1 := by rw [← hW2]; simp [hs1]
  have G2 : SetM (H := Unit) W2 W1.heap.size 0 (.map []) [] := by rw [← hW2]; exact setM_made (H := Unit) W1
  have G3 : Hid (SetM (H := Unit) W3 W1.heap.size 0 (.map []) []) := Lib.hid (G2.below b3)
  have HB3 : Hid (Below w.heap.size w W3) := Lib.hid (b1.trans ((b2.trans (b3.mono b2.size)).mono b1.size))
  rw [hs1] at G3 m3
  rw [hs2] at m3
  clear b1 b2 b3 n1 G2 hs2
  rw [hs1] at hW3
  clear hs1
  subst hW3
  subst hW2
  subst hW1
  have hmm := @run_makeMap Try.prog
  go_enter Try.func27, Try.ntmps27
  go_wp2
  clear hmm
  obtain ⟨W3, hW3⟩ : ∃ x, (((w.alloc (.cells #[.slice no nn nc] 29)).alloc (.map #[] 0)).alloc (.cells #[.map (some (w.heap.size + 1))] 43)) = x := ⟨_, rfl⟩
  rw [hW3] at n3 m3 G3 HB3
  rw [hW3]
  have hw3 : w.heap.size + 1 + 1 < W3.heap.size := by rw [← hW3]; simp
  clear hW3
  obtain ⟨mb, hmb⟩ : ∃ x, w.heap.size + 1 = x := ⟨_, rfl⟩
  rw [hmb] at m3 G3 hw3
  rw [hmb]
  obtain ⟨bm, hbm⟩ : ∃ x, mb + 1 = x := ⟨_, rfl⟩
  rw [hbm] at m3 hw3
  rw [hbm]
  have h1 : w.heap.size < mb := by omega
  have h2 : mb < bm := by omega
  clear hmb hbm
  go_loopw [7, 11] (fun s7 iv wr => ∃ (j : Nat) (D : DataW Unit), j ≤ nn ∧ iv = .int .i64 j ∧ wr.cell? ⟨w.heap.size, 0, none⟩ = some (.slice no nn nc) ∧ wr.cell? ⟨bm, 0, none⟩ = some (.map (some mb)) ∧ Hid (SetM wr mb j D ((ns.take j).map lowS)) ∧ Hid (Below w.heap.size w wr ∧ W3.heap.size ≤ wr.heap.size)) (fun _ iv _ => nn - (intOf iv).toNat)
  case atStart => exact ⟨0, .map [], Nat.zero_le _, rfl, n3, m3, G3, Lib.hid ⟨HB3.out, Nat.le_refl _⟩⟩
  case round =>
    obtain ⟨j, D, hj, rfl, cn, cm, HG, HB⟩ := hrel
    by_cases hlt : j < nn
    · obtain ⟨b, off, rfl, hs⟩ := HN.out.2.2.2 (by omega)
      have hcell := (hs.below HB.out.1 hs.1).2 j (by omega)
      clear hs
      have HTK := Lib.hid (show (ns.take (j + 1)).map lowS = (ns.take j).map lowS ++ [lowS (partAt ns j)] by rw [take_snoc ns j (by omega), List.map_append]; rfl)
      obtain ⟨p, hp⟩ : ∃ x, partAt ns j = x := ⟨_, rfl⟩
      have hps : p.size ≤ 1000000 := by rw [← hp]; exact HS.out _ (part_mem ns j (by omega))
      rw [hp] at hcell HTK
      clear hp
      obtain ⟨lp, hlp⟩ : ∃ x, lowS p = x := ⟨_, rfl⟩
      have hlps : lp.size ≤ 1000000 := by rw [← hlp]; exact lowS_small hps
      rw [hlp] at HTK
      have HLP := Lib.hid hlp
      clear hlp
      have d1 : (j : Int) < (nn : Int) := by omega
      have HBd : Hid (Below w.heap.size w wr.drew ∧ w.heap.size ≤ wr.drew.heap.size) := Lib.hid ⟨HB.out.1.drew, HB.out.1.size⟩
      have hsz := HB.out.2
      go_wp2_with fail
      refine wp_region_held_drew (S := fun W => W.cell? ⟨bm, 0, none⟩ = some (.map (some mb)) ∧ W.cell? ⟨w.heap.size, 0, none⟩ = some (.slice (some ⟨b, off, none⟩) nn nc) ∧ Hid (Below w.heap.size w W ∧ w.heap.size ≤ W.heap.size)) (by kernel_rfl) (⟨cm, cn, HBd⟩) (fun hS => ?_)
      refine wpAnyH_take (i := 0) (oi := { dst := some 15, op := _, type := _, pos := _, after := _, guard := _ }) (v := ?_) rfl (by kernel_rfl) (by kernel_rfl) (by kernel_rfl) (fun _ _ _ h => h) (Or.inl ⟨by rfl, ?_⟩) (by assumption) ?_
      rotate_left
      · intro w hSw
        try dsimp only at hSw
        go_simp
        try with_reducible rfl
      try simp only [Act.put, List.setIfInBounds_toArray, List.set_cons_zero, List.set_cons_succ]
      refine wpAnyH_take (i := 1) (oi := { dst := some 16, op := _, type := _, pos := _, after := _, guard := _ }) (v := ?_) rfl (by kernel_rfl) (by kernel_rfl) (by kernel_rfl) (fun _ _ _ h => h) (Or.inl ⟨by rfl, ?_⟩) (by assumption) ?_
      rotate_left
      · intro w hSw
        try dsimp only at hSw
        go_simp
        try with_reducible rfl
      try simp only [Act.put, List.setIfInBounds_toArray, List.set_cons_zero, List.set_cons_succ]
      refine wpAnyH_ready (rs := [2]) (by kernel_rfl) (by simp) ?_
      refine AllReadyH.cons rfl (fun K hK => ?_) AllReadyH.nil
      go_simp
      refine (lower_s p _ (by omega)).mono ?_
      rintro e w5 ⟨rfl, hb⟩
      rw [HLP.out]
      have G5 := (HG.out.below (Below.refl _ wr).drew).below hb
      obtain ⟨w6, hrun6, hG6, hg6⟩ := G5.store lp (by unfold maxLen; omega) (by unfold maxLen; omega)
      clear G5
      go_wp2_with fail
      refine hK.out _ _ ?_ (fun hHeld => ?_)
      · exact keep2b (by assumption) hb
      clear hK K
      try simp only [Act.put, List.setIfInBounds_toArray, List.set_cons_zero, List.set_cons_succ]
      refine wpAnyH_ready (rs := [3]) (by kernel_rfl) (by simp) ?_
      refine AllReadyH.cons rfl (fun K hK => ?_) AllReadyH.nil
      go_simp
      refine hK.out _ _ ?_ (fun hHeld => ?_)
      · exact keep2g (by assumption) hg6 (by show bm ≠ mb; omega) (by show w.heap.size ≠ mb; omega) (by omega)
      clear hK K
      try simp only [Act.put, List.setIfInBounds_toArray, List.set_cons_zero, List.set_cons_succ]
      refine wpAnyH_done (by kernel_rfl) ?_ _
      have hS6 : w6.cell? ⟨bm, 0, none⟩ = some (.map (some mb)) ∧ w6.cell? ⟨w.heap.size, 0, none⟩ = some (.slice (some ⟨b, off, none⟩) nn nc) ∧ Hid (Below w.heap.size w w6 ∧ w.heap.size ≤ w6.heap.size) := by assumption
      obtain ⟨cm6, cn6, hB6⟩ := hS6
      have hsz6 : W3.heap.size ≤ w6.heap.size := Nat.le_trans hsz (Nat.le_trans hb.size hg6.size)
      have HG6 := Lib.hid hG6
      have HB6 := Lib.hid hB6.out.1
      clear hG6 hg6 hrun6 hB6 hb
      go_wp2_with fail
      go_roundw
      case rel => exact ⟨j + 1, _, by omega, by go_num, cn6, cm6, by rw [HTK.out]; exact HG6, Lib.hid ⟨HB6.out, hsz6⟩⟩
      case measure => simp [intOf]; omega
    · obtain rfl : nn = j := by omega
      rw [List.take_of_length_le (by omega)] at HG
      have HSE := Lib.hid (show Sees wr w.heap.size bm mb nn D no nn nc ns from ⟨cn, cm, HG.out⟩)
      have HB1 := Lib.hid HB.out.1
      have hsz := HB.out.2
      have HR := Lib.hid (sorted_s ao n cap l wr (HA.out.below HB1.out) hF)
      have hlen := Nat.le_trans (nf_len l) hF.len
      have HNS := Lib.hid (nf_small hF.small)
      clear HG HB cn cm
      go_wp2_with fail
      refine HR.out.mono ?_
      rintro e w1 ⟨v, T, rfl, hT, hTO, _, hown, hb⟩
      have HT := Lib.hid hT
      have HTO := Lib.hid hTO
      have HB2 := Lib.hid (HB1.out.trans (hb.mono HB1.out.size))
      have HSE1 := Lib.hid (HSE.out.below hb)
      have hTl : T.length ≤ 1000 := by rw [← tats_len, hT]; exact hlen
      have HTS := Lib.hid (fun t (ht : t ∈ T) => (show t.1.size ≤ maxLen from Nat.le_trans (HNS.out (t.1, t.2.2) (by rw [← HT.out]; exact List.mem_map.2 ⟨t, ht, rfl⟩)).1 (by unfold maxLen; omega)))
      have HPK := Lib.hid (show tats (T.filter fun t => wantB ns t.1) = pickL l ns by rw [tats_filter, HT.out]; rfl)
      clear hT hTO hb HR HSE HNS hlen
      rcases hown.2 with ⟨rfl, he⟩ | ⟨g, xc, cur, rfl, hg, hcur, _⟩
      · have hT0 : T = [] := List.length_eq_zero_iff.1 he
        subst hT0
        have HD := Lib.hid (delN_s w1 w.heap.size bm mb nn D no nn nc ns HSE1.out hnl)
        clear hown he
        go_wp2_with fail
        refine HD.out.mono ?_
        rintro e w2 ⟨rfl, hb⟩
        go_wp2_with fail
        go_ret
        exact ⟨_, rfl, by rw [← HPK.out]; exact atts_nil _, HB2.out.trans (hb.mono HB2.out.size)⟩
      · have HD := Lib.hid (delA_s wr.heap.size g T.length xc T w1 w.heap.size bm mb nn D no nn nc ns hown HTO.out.ok HSE1.out hnl HTS.out (by omega) (by omega) (by omega) hTl)
        have hsb := HB1.out.size
        clear hown hcur
        go_wp2_with fail
        refine HD.out.mono ?_
        rintro e w2 ⟨m, rfl, ho, hgr⟩
        have hR : AttsR w2 (.slice (some ⟨g, 0, none⟩) m xc) (pickL l ns) := by
          rw [← HPK.out]
          exact atts_own ho fun t ht => hdr_owns ((HTO.out t (List.mem_filter.1 ht).1).1.kept hgr (HTO.out t (List.mem_filter.1 ht).1).2)
        have hB3 := HB2.out.grown hgr HB2.out.size (fun q hq => by have := Option.some.inj hq; omega)
        go_wp2_with fail
        go_ret
        exact ⟨_, rfl, hR, hB3⟩

end Go.Proofs.Ytahpocpagidahaa
