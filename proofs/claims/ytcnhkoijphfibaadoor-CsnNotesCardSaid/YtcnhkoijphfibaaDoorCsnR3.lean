/-
  Contracts of the specification's Note, Join, Within. Condition: at most 400000 numbers in each list.
-/
import Derived.Test.YtcnhkoijphfibaaDoorCsnR2
set_option maxRecDepth 100000
set_option linter.unusedVariables false
set_option linter.unusedSimpArgs false
set_option linter.unnecessarySimpa false
namespace Go.Proofs.YtcnhkoijphfibaaDoor
open Go.RowKit Go.PlainAid

theorem filt_yes {l : List Cn} {p : Cn → Bool} {i : Nat} (hi : i < l.length) (h : p (cnA l i) = true) : (l.take (i + 1)).filter p = (l.take i).filter p ++ [cnA l i] := by
  rw [take_cn l i hi, List.filter_append, List.filter_cons_of_pos h]; rfl
theorem filt_no {l : List Cn} {p : Cn → Bool} {i : Nat} (hi : i < l.length) (h : ¬ p (cnA l i) = true) : (l.take (i + 1)).filter p = (l.take i).filter p := by
  rw [take_cn l i hi, List.filter_append, List.filter_cons_of_neg h, List.filter_nil, List.append_nil]
theorem dq {w V : World} {b : Nat} (h : Below b w V) (q : Nat) : Below b w (V.drewN q) := h.trans ⟨rfl, rfl, rfl, Nat.le_refl _, fun _ _ => rfl⟩
set_option maxHeartbeats 16000000 in
theorem rnote_s (ao : Option Addr) (n cap : Nat) (l : List Cn) (c : Cn) (w : World) (h : CnsAt w ao n cap l) (hn : n ≤ 400000) :
    Calls Tryd.prog 31 #[.slice ao n cap, cnV c] w fun e w' => ∃ xo q xc, e = .returned (.slice xo q xc) ∧ CnsAt w' xo q xc (noteC l c) ∧ Below w.heap.size w w' := by
  have H := Lib.hid h
  have hlen := vecO_len l
  have h1 := h.1
  clear h
  have HBx := Lib.hid (box_below w (cnB c))
  have HX := Lib.hid (kbc_new w (cnB c))
  have hv1 := rvld_k c
  have HVd := Lib.hid (vldC_iff c)
  have HNt := Lib.hid (noteR_note (v := l) c)
  unfold noteR at HNt
  obtain ⟨R, hR⟩ : ∃ R, noteC l c = R := ⟨_, rfl⟩
  rw [hR] at HNt ⊢
  clear hR
  obtain ⟨v, hvv⟩ : ∃ v, vecO l = v := ⟨_, rfl⟩
  rw [hvv] at HNt hlen
  have HVV := Lib.hid hvv
  clear hvv
  have HCv := Lib.hid (fun bo m dap W (g : Bool) (h : CnsAt W bo m dap v) (hg : covC v c = g) => show Calls Tryd.prog 29 #[.slice bo m dap, .agg #[.int .i64 c.1, .int .i64 c.2.1, .int .i64 c.2.2]] W (fun q w' => q = .returned (.bool g) ∧ Below W.heap.size W w') from hg ▸ rcovers_s bo m dap v c W h)
  obtain ⟨g, hg⟩ : ∃ g, covC v c = g := ⟨_, rfl⟩
  rw [hg] at HNt
  have HG := Lib.hid hg
  clear hg
  obtain ⟨t, s, r⟩ := c
  show Calls _ _ #[.slice ao n cap, .agg #[.int .i64 t, .int .i64 s, .int .i64 r]] w _
  unfold cnB at HBx HX
  dsimp only at HBx HX hv1 HCv HNt
  obtain ⟨vb, hvb⟩ : ∃ b, vldC (t, s, r) = b := ⟨_, rfl⟩
  have HVB := Lib.hid hvb
  go_enter Tryd.func31, Tryd.ntmps31
  go_wp2_with fail
  generalize w.alloc (.cells #[.int .i64 t, .int .i64 s, .int .i64 r] 23) = w0 at HBx HX ⊢
  refine (rvector_s ao n cap l _ (H.out.below HBx.out)).mono ?_
  rintro e w1 ⟨bo, m, dap, rfl, hw, hb⟩
  rw [HVV.out] at hw
  have hm : v.length = m := hw.1
  have hm2 : m ≤ 400000 := by omega
  have HC0 : Hid (CvR w (.cells #[.int .i64 t, .int .i64 s, .int .i64 r] 23) bo m dap v w1) := Lib.hid ⟨HBx.out.trans (hb.mono HBx.out.size), HX.out.step hb, hw⟩
  clear hw hb HBx HX hlen h1 hn H
  have ld0 : w1.cell? ⟨w.heap.size, 0, none⟩ = some (.int .i64 t) := HC0.out.kb.cell rfl
  have ld1 : w1.cell? ⟨w.heap.size, 1, none⟩ = some (.int .i64 s) := HC0.out.kb.cell rfl
  have ld2 : w1.cell? ⟨w.heap.size, 2, none⟩ = some (.int .i64 r) := HC0.out.kb.cell rfl
  go_wp2_with fail
  clear ld0 ld1 ld2
  refine (hv1 _ _ hvb).mono ?_
  rintro e w2 ⟨rfl, rfl⟩
  have HC := Lib.hid (HC0.out.step (box_below w1 (.cells #[.int .i64 t, .int .i64 s, .int .i64 r] 23)))
  clear hvb hv1 HC0
  generalize w1.alloc (.cells #[.int .i64 t, .int .i64 s, .int .i64 r] 23) = w2 at HC ⊢
  cases vb
  · have HF := Lib.hid (show v = R by rw [← HNt.out, if_pos (.inl fun k => by rw [(HVd.out).2 k] at HVB; exact absurd HVB.out (by decide))])
    have hown0 : (w2.alloc (.cells #[] 23)).ownsRow w.heap.size 23 3 (.slice (some ⟨w2.heap.size, 0, none⟩) 0 0) 0 [] := World.ownsRow_made w2 #[] 0 HC.out.low.size (by unfold maxLen; omega) rfl
    have HE := Lib.hid (HC.out.step (box_below w2 (.cells #[] 23)))
    have hsz := HE.out.low.size
    go_wp2_with (at_builtin; refine app_cns (w2.alloc (.cells #[] 23)) hown0 (.tmp 19) (.tmp 20) bo m dap v ?_ ?_ ?_ ?_ ?_ ?_ ?_ ?_; exact rfl; exact rfl; exact rfl; exact rfl; exact HE.out.v; omega; exact hsz; intro v3 w3 hown3 hb3)
    rw [List.nil_append, Nat.zero_add] at hown3
    obtain ⟨xo, xc, rfl, hat⟩ := cns_of_owns hown3
    have HA := Lib.hid hat
    have HB := Lib.hid (HE.out.low.trans hb3)
    clear hat hown3 hb3 hown0
    go_wp2_with fail
    go_ret
    exact ⟨xo, m, xc, rfl, by rw [← HF.out]; exact HA.out, HB.out⟩
  · have ld0 : w2.cell? ⟨w.heap.size, 0, none⟩ = some (.int .i64 t) := HC.out.kb.cell rfl
    have ld1 : w2.cell? ⟨w.heap.size, 1, none⟩ = some (.int .i64 s) := HC.out.kb.cell rfl
    have ld2 : w2.cell? ⟨w.heap.size, 2, none⟩ = some (.int .i64 r) := HC.out.kb.cell rfl
    go_wp2_with fail
    clear ld0 ld1 ld2
    refine (HCv.out bo m dap _ g HC.out.v HG.out).mono ?_
    rintro e w3 ⟨rfl, hb⟩
    have HC := Lib.hid (HC.out.step hb)
    clear hb
    cases g
    · have HF := Lib.hid (show v.filter (fun e => decide (e.2.2 < r)) ++ (t, s, r) :: v.filter (fun e => decide (r < e.2.2)) = R by
        rw [← HNt.out, if_neg (fun k => k.elim (fun k => k (HVd.out.1 HVB.out)) (fun k => by cases k))])
      obtain ⟨A, hA⟩ : ∃ A, v.filter (fun e => decide (e.2.2 < r)) = A := ⟨_, rfl⟩
      rw [hA] at HF
      have HA := Lib.hid hA
      clear hA
      go_wp2_with fail
      go_loopw [6, 7] (fun sv iv wr => ∃ (i k : Nat) (P : List Cn), i ≤ m ∧ iv = .int .i64 i ∧ k ≤ i + 0 ∧ Hid (P = (v.take i).filter (fun e => decide (e.2.2 < r))) ∧ wr.ownsRow w3.heap.size 23 3 sv k (ccells P) ∧ Hid (Below w3.heap.size w3 wr)) (fun _ iv _ => m - (intOf iv).toNat)
      case atStart => exact ⟨0, 0, [], Nat.zero_le _, rfl, Nat.le_refl _, Lib.hid rfl, World.ownsRow_nil _ _ _ _, Lib.hid (Below.refl _ _)⟩
      case round =>
        obtain ⟨i, k, P, hi, rfl, hk, HP, hown, HB⟩ := hrel
        by_cases hlt : i < m
        · have d1 : (i : Int) < (m : Int) := by omega
          have i0 : (0 : Int) ≤ (i : Int) := by omega
          have HCr := Lib.hid (HC.out.step HB.out)
          obtain ⟨b, off, rfl, _⟩ := HC.out.v.2.2.2.1 (by omega)
          obtain ⟨⟨x, y, z⟩, hp⟩ : ∃ p, cnA v i = p := ⟨_, rfl⟩
          have HX := Lib.hid hp
          clear hp
          have hc2 := (cns_at HCr.out.v hlt).2.2
          rw [HX.out] at hc2
          dsimp only at hc2
          have l2 : wr.cell? ⟨w.heap.size, 2, none⟩ = some (.int .i64 r) := HCr.out.kb.cell rfl
          have HO := Lib.hid hown
          clear hown
          by_cases q : z < r
          · have q1 : decide (z < r) = true := decide_eq_true q
            have HN := Lib.hid (show P ++ [(x, y, z)] = (v.take (i + 1)).filter (fun e => decide (e.2.2 < r)) by
              rw [filt_yes (by omega) (by rw [HX.out]; exact q1), HX.out, HP.out])
            clear q
            go_wp2_with fail
            go_quiet (fail)
            generalize hW1 : World.drewN wr _ = W1
            have hbW : Below wr.heap.size wr W1 := by rw [← hW1]; exact dq (Below.refl _ _) _
            have HB1 := Lib.hid (HB.out.trans (hbW.mono HB.out.size))
            have HO1 := Lib.hid (own_belowC HO.out hbW)
            have HC1 := Lib.hid (HC.out.step HB1.out)
            clear hW1 hbW hc2 l2 HO HCr
            obtain ⟨c0, c1, c2⟩ := cns_at HC1.out.v hlt
            rw [HX.out] at c0 c1 c2
            dsimp only at c0 c1 c2
            have HSz := HB1.out.size
            go_wp2_with (at_builtin; refine app_cns (W1.alloc (.cells #[.int .i64 x, .int .i64 y, .int .i64 z] 23)) (HO1.out.alloc _) (.tmp 36) (.tmp 41) (some ⟨W1.heap.size, 0, none⟩) 1 1 [(x, y, z)] ?_ ?_ ?_ ?_ ?_ ?_ ?_ ?_; exact rfl; exact rfl; exact rfl; exact rfl; exact cns_new W1 (x, y, z); omega; (show w3.heap.size ≤ (W1.heap.push _).size; simp; omega); intro v3 W3 hown3 hb3; have hB3 := (HB1.out.alloc HSz (.cells #[.int .i64 x, .int .i64 y, .int .i64 z] 23)).trans hb3)
            rw [← ccells_app] at hown3
            go_roundw
            case rel => exact ⟨i + 1, k + 1, P ++ [(x, y, z)], by omega, by go_num, by omega, HN, hown3, Lib.hid hB3⟩
            case measure => simp [intOf]; omega
          · have q1 : decide (z < r) = false := decide_eq_false q
            have HN := Lib.hid (show P = (v.take (i + 1)).filter (fun e => decide (e.2.2 < r)) by
              rw [filt_no (by omega) (by rw [HX.out, q1]; decide), HP.out])
            clear q
            go_wp2_with fail
            go_quiet (fail)
            generalize hW1 : World.drewN wr _ = W1
            have hbW : Below wr.heap.size wr W1 := by rw [← hW1]; exact dq (Below.refl _ _) _
            have HB1 := Lib.hid (HB.out.trans (hbW.mono HB.out.size))
            have HO1 := Lib.hid (own_belowC HO.out hbW)
            clear hW1 hbW hc2 l2 HO HCr
            go_wp2_with fail
            go_roundw
            case rel => exact ⟨i + 1, k, P, by omega, by go_num, by omega, HN, HO1.out, HB1⟩
            case measure => simp [intOf]; omega
        · obtain rfl : m = i := by omega
          have hk0 := hk
          obtain ⟨k0, hk00⟩ : ∃ k0, k0 = k := ⟨_, rfl⟩
          subst hk00
          have hPA : P = A := by rw [← HA.out, HP.out, List.take_of_length_le (by omega)]
          have HO := Lib.hid hown
          rw [hPA] at HO
          have HCr := Lib.hid (HC.out.step HB.out)
          clear hPA hown HP
          have l0 : wr.cell? ⟨w.heap.size, 0, none⟩ = some (.int .i64 t) := HCr.out.kb.cell rfl
          have l1 : wr.cell? ⟨w.heap.size, 1, none⟩ = some (.int .i64 s) := HCr.out.kb.cell rfl
          have l2 : wr.cell? ⟨w.heap.size, 2, none⟩ = some (.int .i64 r) := HCr.out.kb.cell rfl
          have HSz := HB.out.size
          go_wp2_with (at_builtin; refine app_cns (wr.alloc (.cells #[.int .i64 t, .int .i64 s, .int .i64 r] 23)) (HO.out.alloc _) (.tmp 43) (.tmp 45) (some ⟨wr.heap.size, 0, none⟩) 1 1 [(t, s, r)] ?_ ?_ ?_ ?_ ?_ ?_ ?_ ?_; exact rfl; exact rfl; exact rfl; exact rfl; exact cns_new wr (t, s, r); omega; (show w3.heap.size ≤ (wr.heap.push _).size; simp; omega); intro v4 w4 hown4 hb4)
          rw [← ccells_app] at hown4
          have HB4 := Lib.hid ((HB.out.alloc HSz (.cells #[.int .i64 t, .int .i64 s, .int .i64 r] 23)).trans hb4)
          clear l0 l1 l2 hb4 HB HCr HO HSz
          go_loopw [6, 8] (fun sv iv wr => ∃ (i k : Nat) (P : List Cn), i ≤ m ∧ iv = .int .i64 i ∧ k ≤ i + (k0 + 1) ∧ Hid (P = A ++ (t, s, r) :: (v.take i).filter (fun e => decide (r < e.2.2))) ∧ wr.ownsRow w3.heap.size 23 3 sv k (ccells P) ∧ Hid (Below w3.heap.size w3 wr)) (fun _ iv _ => m - (intOf iv).toNat)
          case atStart => exact ⟨0, k0 + 1, A ++ [(t, s, r)], Nat.zero_le _, rfl, by omega, Lib.hid (by simp), hown4, HB4⟩
          case round =>
            obtain ⟨i, k, P, hi, rfl, hk, HP, hown, HB⟩ := hrel
            by_cases hlt : i < m
            · have d1 : (i : Int) < (m : Int) := by omega
              have i0 : (0 : Int) ≤ (i : Int) := by omega
              have HCr := Lib.hid (HC.out.step HB.out)
              obtain ⟨b, off, rfl, _⟩ := HC.out.v.2.2.2.1 (by omega)
              obtain ⟨⟨x, y, z⟩, hp⟩ : ∃ p, cnA v i = p := ⟨_, rfl⟩
              have HX := Lib.hid hp
              clear hp
              have hc2 := (cns_at HCr.out.v hlt).2.2
              rw [HX.out] at hc2
              dsimp only at hc2
              have l2 : wr.cell? ⟨w.heap.size, 2, none⟩ = some (.int .i64 r) := HCr.out.kb.cell rfl
              have HO := Lib.hid hown
              clear hown
              by_cases q : r < z
              · have q1 : decide (r < z) = true := decide_eq_true q
                have HN := Lib.hid (show P ++ [(x, y, z)] = A ++ (t, s, r) :: (v.take (i + 1)).filter (fun e => decide (r < e.2.2)) by
                  rw [filt_yes (by omega) (by rw [HX.out]; exact q1), HX.out, HP.out, List.append_assoc, List.cons_append])
                clear q
                go_wp2_with fail
                go_quiet (fail)
                generalize hW1 : World.drewN wr _ = W1
                have hbW : Below wr.heap.size wr W1 := by rw [← hW1]; exact dq (Below.refl _ _) _
                have HB1 := Lib.hid (HB.out.trans (hbW.mono HB.out.size))
                have HO1 := Lib.hid (own_belowC HO.out hbW)
                have HC1 := Lib.hid (HC.out.step HB1.out)
                clear hW1 hbW hc2 l2 HO HCr
                obtain ⟨c0, c1, c2⟩ := cns_at HC1.out.v hlt
                rw [HX.out] at c0 c1 c2
                dsimp only at c0 c1 c2
                have HSz := HB1.out.size
                go_wp2_with (at_builtin; refine app_cns (W1.alloc (.cells #[.int .i64 x, .int .i64 y, .int .i64 z] 23)) (HO1.out.alloc _) (.tmp 61) (.tmp 66) (some ⟨W1.heap.size, 0, none⟩) 1 1 [(x, y, z)] ?_ ?_ ?_ ?_ ?_ ?_ ?_ ?_; exact rfl; exact rfl; exact rfl; exact rfl; exact cns_new W1 (x, y, z); omega; (show w3.heap.size ≤ (W1.heap.push _).size; simp; omega); intro v3 W3 hown3 hb3; have hB3 := (HB1.out.alloc HSz (.cells #[.int .i64 x, .int .i64 y, .int .i64 z] 23)).trans hb3)
                rw [← ccells_app] at hown3
                go_roundw
                case rel => exact ⟨i + 1, k + 1, P ++ [(x, y, z)], by omega, by go_num, by omega, HN, hown3, Lib.hid hB3⟩
                case measure => simp [intOf]; omega
              · have q1 : decide (r < z) = false := decide_eq_false q
                have HN := Lib.hid (show P = A ++ (t, s, r) :: (v.take (i + 1)).filter (fun e => decide (r < e.2.2)) by
                  rw [filt_no (by omega) (by rw [HX.out, q1]; decide), HP.out])
                clear q
                go_wp2_with fail
                go_quiet (fail)
                generalize hW1 : World.drewN wr _ = W1
                have hbW : Below wr.heap.size wr W1 := by rw [← hW1]; exact dq (Below.refl _ _) _
                have HB1 := Lib.hid (HB.out.trans (hbW.mono HB.out.size))
                have HO1 := Lib.hid (own_belowC HO.out hbW)
                clear hW1 hbW hc2 l2 HO HCr
                go_wp2_with fail
                go_roundw
                case rel => exact ⟨i + 1, k, P, by omega, by go_num, by omega, HN, HO1.out, HB1⟩
                case measure => simp [intOf]; omega
            · obtain rfl : m = i := by omega
              have hPA : P = R := by rw [← HF.out, HP.out, List.take_of_length_le (by omega)]
              rw [hPA] at hown
              obtain ⟨xo, xc, rfl, hat⟩ := cns_of_owns hown
              have HAt := Lib.hid hat
              have HL := Lib.hid (HC.out.low.trans (HB.out.mono HC.out.low.size))
              clear hat hown hPA
              go_wp2_with fail
              go_ret
              exact ⟨xo, _, xc, rfl, HAt.out, HL.out⟩
    · have HF := Lib.hid (show v = R by rw [← HNt.out, if_pos (.inr rfl)])
      have hown0 : (w3.alloc (.cells #[] 23)).ownsRow w.heap.size 23 3 (.slice (some ⟨w3.heap.size, 0, none⟩) 0 0) 0 [] := World.ownsRow_made w3 #[] 0 HC.out.low.size (by unfold maxLen; omega) rfl
      have HE := Lib.hid (HC.out.step (box_below w3 (.cells #[] 23)))
      have hsz := HE.out.low.size
      go_wp2_with (at_builtin; refine app_cns (w3.alloc (.cells #[] 23)) hown0 (.tmp 19) (.tmp 20) bo m dap v ?_ ?_ ?_ ?_ ?_ ?_ ?_ ?_; exact rfl; exact rfl; exact rfl; exact rfl; exact HE.out.v; omega; exact hsz; intro v3 w8 hown3 hb3)
      rw [List.nil_append, Nat.zero_add] at hown3
      obtain ⟨xo, xc, rfl, hat⟩ := cns_of_owns hown3
      have HA := Lib.hid hat
      have HB := Lib.hid (HE.out.low.trans hb3)
      clear hat hown3 hb3 hown0
      go_wp2_with fail
      go_ret
      exact ⟨xo, m, xc, rfl, by rw [← HF.out]; exact HA.out, HB.out⟩

end Go.Proofs.YtcnhkoijphfibaaDoor
