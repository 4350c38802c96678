/-
  Contracts of the specification's Names, without and with. Condition: as Sorted's.
-/
import Derived.Test.YtahpocpagidahaaAttR3
set_option linter.unusedVariables false
set_option linter.unusedSimpArgs false
set_option linter.unnecessarySimpa false
namespace Go.Proofs.Ytahpocpagidahaa
open Go.RowKit Go.PlainAid

theorem names_part {l : List At} {T : List Tr} (hT : tats T = nf l) (q : Nat) (h : q < T.length) : (trD T q).1 = partAt (names l) q := by
  have h1 := nf_names l
  rw [← hT] at h1
  have h2 := atD_tats T q
  unfold partAt
  rw [← h1, List.getD_eq_getElem?_getD, List.getElem?_map, List.getElem?_eq_getElem (by rw [tats_len]; exact h)]
  show _ = ((tats T)[q]'_).1
  rw [← at_get (tats T) q (by rw [tats_len]; exact h), h2]
theorem names_tlen {l : List At} {T : List Tr} (hT : tats T = nf l) : (names l).length = T.length := by
  rw [← nf_names, List.length_map, ← hT, tats_len]
set_option maxRecDepth 100000 in
set_option maxHeartbeats 4000000 in
theorem rnames_s (ao : Option Addr) (n cap : Nat) (l : List At) (w : World) (h : AttrsAt w ao n cap l) (hF : Few l) :
    Calls Try.prog 26 #[.slice ao n cap] w fun e w' => ∃ v, e = .returned v ∧ Hdr w' v (names l) ∧ Below w.heap.size w w' := by
  have HR := Lib.hid (rsorted_s ao n cap l w h hF.small hF.vals (by rw [← h.1]; exact hF.len))
  have hlen := Nat.le_trans (nf_len l) hF.len
  go_enter Try.func26, Try.ntmps26
  go_wp2_with fail
  refine HR.out.mono ?_
  rintro e w1 ⟨v, T, rfl, hT, hTO, hown, hb⟩
  obtain ⟨_, xo, xc, rfl, hat, _⟩ := ts_owns hown
  have HTA := Lib.hid hat
  have HB := Lib.hid hb
  have HT := Lib.hid hT
  have hTl : T.length ≤ 1000 := by rw [← tats_len, hT]; exact hlen
  have hxc : xc ≤ 9223372036854775807 := hat.2.2.1
  have HNL := Lib.hid (names_tlen hT)
  clear HR h hF hat hTO hb hown hT hlen
  obtain ⟨ns, hns⟩ : ∃ x, names l = x := ⟨_, rfl⟩
  have HNS := Lib.hid hns
  rw [hns] at HNL
  clear hns
  go_wp2_with fail
  go_loopw [3, 5] (fun s3 i wr => ∃ q : Nat, q ≤ T.length ∧ i = .int .i64 q ∧ wr.ownsRow w1.heap.size 9 1 s3 (ns.take q).length (scells (ns.take q)) ∧ Hid (Below w1.heap.size w1 wr)) (fun _ i _ => T.length - (intOf i).toNat)
  case atStart => exact ⟨0, Nat.zero_le _, rfl, World.ownsRow_nil _ _ _ _, Lib.hid (Below.refl _ _)⟩
  case round =>
    obtain ⟨q, hq, rfl, hown, HB2⟩ := hrel
    by_cases hlt : q < T.length
    · obtain ⟨b, off, rfl, hblt, _⟩ := HTA.out.2.2.2 (by omega)
      obtain ⟨a0, _⟩ := ts_at HTA.out q hlt
      have a0 := cell_later HB2.out a0
      have HPN := Lib.hid (names_part HT.out q hlt)
      obtain ⟨p, hp⟩ : ∃ x, (trD T q).1 = x := ⟨_, rfl⟩
      rw [hp] at a0 HPN
      rw [HNS.out] at HPN
      clear hp
      have HTS := Lib.hid (show ns.take (q + 1) = ns.take q ++ [p] by rw [HPN.out]; exact take_snoc ns q (by have := HNL.out; omega))
      have hql : (ns.take q).length ≤ 1000 := by rw [List.length_take]; omega
      have d1 : (q : Int) < (T.length : Int) := by omega
      have hsz := HB2.out.size
      go_wp2_with (at_builtin; go_must (refine push_str _ hown (.tmp 14) (.tmp 20) p ?_ ?_ ?_ ?_ ?_ ?_ ?_; exact rfl; exact rfl; exact rfl; exact rfl; omega; exact hsz; intro v3 w3 hown3 hb3))
      go_roundw
      case rel => exact ⟨q + 1, by omega, by go_num, by rw [HTS.out, scells_snoc, List.length_append]; exact hown3, Lib.hid (HB2.out.trans hb3)⟩
      case measure => simp [intOf]; omega
    · obtain rfl : q = T.length := by omega
      have HE := Lib.hid (show ns.take T.length = ns from List.take_of_length_le (by rw [HNL.out]; exact Nat.le_refl _))
      go_wp2_with fail
      go_ret
      rw [HE.out] at hown
      exact ⟨_, rfl, by rw [HNS.out]; exact hdr_owns hown, HB.out.trans (HB2.out.mono HB.out.size)⟩

theorem apart_symm {a b : Option Nat} (h : a = none ∨ a ≠ b) : b = none ∨ b ≠ a := by
  cases b with
  | none => exact .inl rfl
  | some g =>
    refine .inr fun e => ?_
    rcases h with h | h
    · rw [h] at e; cases e
    · exact h e.symm
def wthL (l : List At) (lw : ByteArray) : List At := (nf l).filter fun a => decide (a.1 ≠ lw)
theorem filter_at {l : List At} {lw : ByteArray} {q : Nat} (h : q < l.length) (p : At → Bool) : (l.take (q + 1)).filter p = (l.take q).filter p ++ (if p (atD l q) then [atD l q] else []) := by
  rw [at_take l q h, List.filter_append]
  congr 1
  by_cases hp : p (atD l q) = true
  · simp [hp]
  · simp [hp]
theorem own_later {w w' : World} {base : Nat} {t : Tr} (h : w.ownsRow base 9 1 t.2.1 t.2.2.length (scells t.2.2)) {f : Nat} (hb : Below f w w') (hf : w.heap.size ≤ f) : w'.ownsRow base 9 1 t.2.1 t.2.2.length (scells t.2.2) := own_below h (hb.mono hf)
/-- what is handed back as a row of the call's own -/
def AttsO (w : World) (base : Nat) (v : Value) (l : List At) : Prop := ∃ T, tats T = l ∧ TOwn w base v T ∧ w.ownsRow base 42 2 v T.length (tcells T)
theorem AttsO.r {w : World} {base : Nat} {v : Value} {l : List At} (h : AttsO w base v l) : AttsR w v l := by
  obtain ⟨T, rfl, hO, hown⟩ := h
  exact atts_own hown hO.ok
set_option maxRecDepth 100000 in
set_option maxHeartbeats 4000000 in
theorem rwithout_s (ao : Option Addr) (n cap : Nat) (l : List At) (name : ByteArray) (w : World) (h : AttrsAt w ao n cap l) (hF : Few l) (hns : name.size ≤ 1000000) :
    Calls Try.prog 60 #[.slice ao n cap, .string name] w fun e w' => ∃ v, e = .returned v ∧ AttsO w' w.heap.size v (wthL l (lowS name)) ∧ Below w.heap.size w w' := by
  have HR := Lib.hid (rsorted_s ao n cap l w h hF.small hF.vals (by rw [← h.1]; exact hF.len))
  have hlen := Nat.le_trans (nf_len l) hF.len
  go_enter Try.func60, Try.ntmps60
  go_wp2_with fail
  refine HR.out.mono ?_
  rintro e w1 ⟨v, T, rfl, hT, hTO, hown, hb⟩
  obtain ⟨_, xo, xc, rfl, hat, _⟩ := ts_owns hown
  have HTA := Lib.hid hat
  have HTO := Lib.hid hTO
  have HB := Lib.hid hb
  have hTl : T.length ≤ 1000 := by rw [← tats_len, hT]; exact hlen
  have HT := Lib.hid hT
  have hxc : xc ≤ 9223372036854775807 := hat.2.2.1
  clear HR h hF hat hTO hb hown hT hlen
  obtain ⟨lw, hlw⟩ : ∃ x, lowS name = x := ⟨_, rfl⟩
  have HLW := Lib.hid hlw
  clear hlw
  go_wp2_with fail
  go_loopw [5, 7] (fun v i wr => ∃ (q : Nat) (U : List Tr), q ≤ T.length ∧ i = .int .i64 q ∧ U.length ≤ q ∧ Hid (tats U = ((tats T).take q).filter fun a => decide (a.1 ≠ lw)) ∧ Hid (TOwn wr w.heap.size v U) ∧ wr.ownsRow w1.heap.size 42 2 v U.length (tcells U) ∧ Hid (Below w1.heap.size w1 wr)) (fun _ i _ => T.length - (intOf i).toNat)
  case atStart => exact ⟨0, [], Nat.zero_le _, rfl, Nat.le_refl _, Lib.hid rfl, Lib.hid (fun t ht => (List.not_mem_nil ht).elim), World.ownsRow_nil _ _ _ _, Lib.hid (Below.refl _ _)⟩
  case round =>
    obtain ⟨q, U, hq, rfl, hUq, HU, HUO, hown, HB2⟩ := hrel
    by_cases hlt : q < T.length
    · obtain ⟨b, off, rfl, hblt, _⟩ := HTA.out.2.2.2 (by omega)
      obtain ⟨a0, a1⟩ := ts_at HTA.out q hlt
      have a0 := cell_later HB2.out a0
      have a1 := cell_later HB2.out a1
      have HTQ := Lib.hid (HTO.out _ (tr_mem T q hlt)).1
      have HFI := Lib.hid (filter_at (l := tats T) (lw := lw) (q := q) (by rw [tats_len]; exact hlt) fun a => decide (a.1 ≠ lw))
      rw [atD_tats] at HFI
      obtain ⟨x, hx⟩ : ∃ x, trD T q = x := ⟨_, rfl⟩
      rw [hx] at a0 a1 HFI HTQ
      clear hx
      obtain ⟨p, hd, vs⟩ := x
      simp only [] at a0 a1 HFI HTQ
      have d1 : (q : Int) < (T.length : Int) := by omega
      have HBd : Hid (Below w1.heap.size w1 wr.drew ∧ w1.heap.size ≤ wr.drew.heap.size) := Lib.hid ⟨HB2.out.drew, HB2.out.size⟩
      by_cases hpl : p = lw
      · have q1 : (p.toList == lw.toList) = true := by rw [str_eq]; exact decide_eq_true hpl
        have q2 : (p.toList != lw.toList) = false := by unfold bne; rw [q1]; rfl
        have HF2 := Lib.hid (show tats U = ((tats T).take (q + 1)).filter fun a => decide (a.1 ≠ lw) by rw [HFI.out, if_neg (by simp [hpl]), List.append_nil]; exact HU.out)
        clear hpl
        go_wp2_with fail
        go_region_held3 (fun W => W.cell? ⟨b, off + q * 2, none⟩ = some (.string p) ∧ W.cell? ⟨b, off + q * 2 + 1, none⟩ = some hd ∧ Hid (Below w1.heap.size w1 W ∧ w1.heap.size ≤ W.heap.size))
          (first | exact ⟨a0, a1, HBd⟩ | exact keep2b (by assumption) hb | go_keep)
          ((go_at_call 35; with_reducible refine (rLower_s name _ (by omega)).mono ?_; rintro e w5 ⟨rfl, hb⟩; rw [HLW.out]))
        have HB6 := Lib.hid (HBd.out.1.trans (hb.mono HBd.out.2))
        have hb5 : Below wr.heap.size wr w5 := (Below.refl wr.heap.size wr).drew.trans hb
        have hown5 := own_below hown hb5
        have HUO5 := Lib.hid (HUO.out.below hb5)
        clear hb5 hb
        go_wp2_with fail
        go_roundw
        case rel => exact ⟨q + 1, U, by omega, by go_num, by omega, HF2, HUO5, hown5, HB6⟩
        case measure => simp [intOf]; omega
      · have q1 : (p.toList == lw.toList) = false := by rw [str_eq]; exact decide_eq_false hpl
        have q2 : (p.toList != lw.toList) = true := by unfold bne; rw [q1]; rfl
        have HF2 := Lib.hid (show tats (U ++ [(p, hd, vs)]) = ((tats T).take (q + 1)).filter fun a => decide (a.1 ≠ lw) by rw [HFI.out, if_pos (by simp [hpl]), tats_append, HU.out]; rfl)
        clear hpl
        go_wp2_with fail
        go_region_held3 (fun W => W.cell? ⟨b, off + q * 2, none⟩ = some (.string p) ∧ W.cell? ⟨b, off + q * 2 + 1, none⟩ = some hd ∧ Hid (Below w1.heap.size w1 W ∧ w1.heap.size ≤ W.heap.size))
          (first | exact ⟨a0, a1, HBd⟩ | exact keep2b (by assumption) hb | go_keep)
          ((go_at_call 35; with_reducible refine (rLower_s name _ (by omega)).mono ?_; rintro e w5 ⟨rfl, hb⟩; rw [HLW.out]))
        have HB6 := Lib.hid (HBd.out.1.trans (hb.mono HBd.out.2))
        have hb5 : Below wr.heap.size wr w5 := (Below.refl wr.heap.size wr).drew.trans hb
        have hown5 := own_below hown hb5
        have a05 := cell_later (hb.mono (Nat.le_refl _)) (show wr.drew.cell? ⟨b, off + q * 2, none⟩ = some (.string p) from a0)
        have a15 := cell_later (hb.mono (Nat.le_refl _)) (show wr.drew.cell? ⟨b, off + q * 2 + 1, none⟩ = some hd from a1)
        have hTQ5 : w5.ownsRow w.heap.size 9 1 hd vs.length (scells vs) := own_below HTQ.out HB6.out
        have hap := own_apart hown5 HTQ.out (Nat.le_refl _)
        have HUO5 := Lib.hid ((HUO.out.below hb5).snoc (t := (p, hd, vs)) hTQ5 (apart_symm hap))
        have HHd := Lib.hid (hdr_owns hTQ5)
        clear hb5 hb hTQ5 hap hown
        have hsz6 := HB6.out.size
        have hsz1 := HB.out.size
        go_wp2_with (at_builtin; go_must (refine app_attrs (w5.alloc (.cells #[.string p, hd] 42)) (hown5.alloc _) (.tmp 24) (.tmp 29) _ 1 1 [(p, hd, vs)] ?_ ?_ ?_ ?_ (ts_new1 w5 (p, hd, vs)) ?_ ?_ ?_ ?_; exact rfl; exact rfl; exact rfl; exact rfl; exact (fun t ht => by rw [List.mem_singleton.1 ht]; exact HHd.out.below ((Below.refl _ w5).alloc (Nat.le_refl _) _)); omega; (simp; omega); intro v7 w7 hown7 hg7 hl7))
        have HTO7 := Lib.hid ((HUO5.out.below ((Below.refl _ w5).alloc (Nat.le_refl _) _)).grown hg7 hl7)
        have hb7 : Below w1.heap.size w1 w7 := (HB6.out.alloc hsz6 _).grown hg7 (by simp; omega) (fun q hq => (hown5.lt q hq).1)
        go_roundw
        case rel => exact ⟨q + 1, U ++ [(p, hd, vs)], by omega, by go_num, by simp; omega, HF2, HTO7, by rw [List.length_append, tcells_append]; exact hown7, Lib.hid hb7⟩
        case measure => simp [intOf]; omega
    · obtain rfl : q = T.length := by omega
      have HE := Lib.hid (show tats U = wthL l lw by rw [HU.out, List.take_of_length_le (by rw [tats_len]; exact Nat.le_refl _), HT.out]; rfl)
      go_wp2_with fail
      go_ret
      exact ⟨_, rfl, ⟨U, by rw [HLW.out]; exact HE.out, HUO.out, hown.mono HB.out.size⟩, HB.out.trans (HB2.out.mono HB.out.size)⟩

end Go.Proofs.Ytahpocpagidahaa
