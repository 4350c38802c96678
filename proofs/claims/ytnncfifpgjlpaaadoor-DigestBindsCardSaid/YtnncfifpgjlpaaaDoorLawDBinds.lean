/-
  Proved: identitylaw03.DigestBinds returns true for every two slices of strings, every string and every int (the tied card). No condition beyond the row's own.
-/
import Derived.Test.YtnncfifpgjlpaaaDoorDigFine
import Derived.Deep.QuietTactic
import Derived.BigQuiet
set_option linter.unusedVariables false
set_option linter.unusedSimpArgs false
set_option linter.unnecessarySimpa false
namespace Go.Proofs.YtnncfifpgjlpaaaDoor
open Go.ChangeShapes Go.WideShapes Go.ChangeAt Go.RowKit Go.PlainAid
open Go.ChangeMaps (open_string shut_string)

set_option maxRecDepth 100000 in
set_option maxHeartbeats 4000000 in
theorem binds_s (ao : Option Addr) (n cap : Nat) (ps : List ByteArray) (s : ByteArray) (i : Int) (bo : Option Addr) (m dap : Nat) (qs : List ByteArray) (w : World) (hs : StrsAt w ao n cap ps) (hi : (Lit.int .i64 i).wf = true) (ht : StrsAt w bo m dap qs) (ho : PowOk w) :
    Calls Tryd.prog 10 #[.slice ao n cap, .string s, .int .i64 i, .slice bo m dap] w fun e w' => e = .returned (.bool true) ∧ Below w.heap.size w w' := by
  have B0 := Below.refl w.heap.size w
  have O0 := ho
  have S := hs
  have T := ht
  obtain rfl := hs.1
  obtain rfl := ht.1
  obtain ⟨hi0, hi9⟩ := int_range hi
  clear hi hs ht
  cases g1 : shortB ps with
  | false =>
    go_enter Tryd.func10, Tryd.ntmps10
    go_wp2_with fail
    refine (short_k _ _ _ ps false _ S g1).mono ?_
    rintro e w' ⟨rfl, rfl⟩
    go_wp2_with fail
    refine (awake_s _ O0).mono ?_
    rintro e w1 ⟨rfl, hb⟩
    have B1 := B0.trans (hb.mono B0.size)
    have O1 := O0.below hb
    clear hb
    go_wp2_with fail
    go_ret
    exact ⟨rfl, B1⟩
  | true =>
    cases g2 : shortB qs with
    | false =>
      go_enter Tryd.func10, Tryd.ntmps10
      go_wp2_with fail
      refine (short_k _ _ _ ps true _ S g1).mono ?_
      rintro e w' ⟨rfl, rfl⟩
      go_wp2_with fail
      refine (short_k _ _ _ qs false _ T g2).mono ?_
      rintro e w' ⟨rfl, rfl⟩
      go_wp2_with fail
      refine (awake_s _ O0).mono ?_
      rintro e w1 ⟨rfl, hb⟩
      have B1 := B0.trans (hb.mono B0.size)
      have O1 := O0.below hb
      clear hb
      go_wp2_with fail
      go_ret
      exact ⟨rfl, B1⟩
    | true =>
      obtain ⟨gn, gp⟩ := short_true g1
      obtain ⟨gm, gq⟩ := short_true g2
      by_cases h3 : 300 < s.size
      · skip
        go_enter Tryd.func10, Tryd.ntmps10
        go_wp2_with fail
        refine (short_k _ _ _ ps true _ S g1).mono ?_
        rintro e w' ⟨rfl, rfl⟩
        go_wp2_with fail
        refine (short_k _ _ _ qs true _ T g2).mono ?_
        rintro e w' ⟨rfl, rfl⟩
        go_wp2_with fail
        refine (awake_s _ O0).mono ?_
        rintro e w1 ⟨rfl, hb⟩
        have B1 := B0.trans (hb.mono B0.size)
        have O1 := O0.below hb
        clear hb
        go_wp2_with fail
        go_ret
        exact ⟨rfl, B1⟩
      obtain ⟨x, HX⟩ : ∃ x, Hid (rootS ps = x) := ⟨_, Lib.hid rfl⟩
      cases hv : provesB x s i ps.length qs with
      | false =>
        have HV := Lib.hid hv; clear hv
        go_enter Tryd.func10, Tryd.ntmps10
        go_wp2_with fail
        refine (short_k _ _ _ ps true _ S g1).mono ?_
        rintro e w' ⟨rfl, rfl⟩
        go_wp2_with fail
        refine (short_k _ _ _ qs true _ T g2).mono ?_
        rintro e w' ⟨rfl, rfl⟩
        go_wp2_with fail
        refine (root_k _ _ _ ps x _ S (by omega) (fun j hj => by have := gp j (by omega); omega) HX.out).mono ?_
        rintro e w1 ⟨rfl, hb⟩
        have B1 := B0.trans (hb.mono B0.size)
        have O1 := O0.below hb
        have S := S.below hb
        have T := T.below hb
        clear hb
        go_wp2_with fail
        refine (proves_i x s i (ps.length : Int) _ _ _ qs false _ hi9 (by omega) (by omega) T (by omega) (fun j hj => by have := gq j (by omega); omega) HV.out).mono ?_
        rintro e w2 ⟨rfl, hb⟩
        have B2 := B1.trans (hb.mono B1.size)
        have O2 := O1.below hb
        have S := S.below hb
        have T := T.below hb
        clear hb
        go_wp2_with fail
        refine (awake_s _ O2).mono ?_
        rintro e w3 ⟨rfl, hb⟩
        have B3 := B2.trans (hb.mono B2.size)
        have O3 := O2.below hb
        clear hb
        go_wp2_with fail
        go_ret
        exact ⟨rfl, B3⟩
      | true =>
        have hin : ¬ (i < 0 ∨ (ps.length : Int) ≤ i) := fun hb => by rw [proves_bad x s i _ hb qs] at hv; cases hv
        obtain ⟨i, rfl⟩ := Int.eq_ofNat_of_zero_le (show 0 ≤ i by omega)
        have hil : i < ps.length := by omega
        obtain ⟨b, off, rfl, hbw, hcells⟩ := S.at (by omega)
        obtain ⟨p, hpe⟩ : ∃ p, p = partAt ps i := ⟨_, rfl⟩
        have HC1 := Lib.hid (show ∀ w', Below w.heap.size w w' → w'.cell? ⟨b, off + i, none⟩ = some (.string p) from fun w' hb => by rw [hpe]; exact hcells _ hb i hil)
        clear hcells
        have HV := Lib.hid hv
        have d1 : decide ((i : Int) < 0) = false := decide_eq_false (by omega)
        have d2 : decide ((ps.length : Int) ≤ (i : Int)) = false := decide_eq_false (by omega)
        by_cases hsp : s = p
        · have hq := str_eq hsp
          clear hv hpe hsp hin
          go_enter Tryd.func10, Tryd.ntmps10
          go_wp2_with fail
          refine (short_k _ _ _ ps true _ S g1).mono ?_
          rintro e w' ⟨rfl, rfl⟩
          go_wp2_with fail
          refine (short_k _ _ _ qs true _ T g2).mono ?_
          rintro e w' ⟨rfl, rfl⟩
          go_wp2_with fail
          refine (root_k _ _ _ ps x _ S (by omega) (fun j hj => by have := gp j (by omega); omega) HX.out).mono ?_
          rintro e w1 ⟨rfl, hb⟩
          have B1 := B0.trans (hb.mono B0.size)
          have O1 := O0.below hb
          have S := S.below hb
          have T := T.below hb
          clear hb
          go_wp2_with fail
          refine (proves_i x s i (ps.length : Int) _ _ _ qs true _ hi9 (by omega) (by omega) T (by omega) (fun j hj => by have := gq j (by omega); omega) HV.out).mono ?_
          rintro e w2 ⟨rfl, hb⟩
          have B2 := B1.trans (hb.mono B1.size)
          have O2 := O1.below hb
          have S := S.below hb
          have T := T.below hb
          clear hb
          have hc := HC1.out _ B2
          go_wp2_with fail
          refine (awake_s _ O2).mono ?_
          rintro e w3 ⟨rfl, hb⟩
          have B3 := B2.trans (hb.mono B2.size)
          clear hb
          go_wp2_with fail
          go_ret
          exact ⟨rfl, B3⟩
        · have hq := str_ne hsp
          have hbd := binds ps s i qs hil (by rw [← hpe]; exact hsp) (by rw [HX.out]; exact hv)
          rw [← hpe] at hbd
          have hzp : p.size ≤ 1000 := by rw [hpe]; have := gp i hil; omega
          obtain ⟨Q, HQ⟩ : ∃ Q, Hid (pathL (ps.map leafS) i = Q) := ⟨_, Lib.hid rfl⟩
          have HF := Lib.hid (path_fine ps i)
          rw [HQ.out] at HF hbd
          obtain ⟨La, Lb, ha, hb', hlen, hclash⟩ := hbd
          have HA := Lib.hid ha
          have HB := Lib.hid hb'
          have HZA := Lib.hid (strings_fine hzp HF.out.2 ha)
          have HZB := Lib.hid (strings_fine (show s.size ≤ 1000 by omega) (fun j hj => by have := gq j (by omega); omega) hb')
          have HCL := Lib.hid hclash
          have dl : ((La.length : Int) != (Lb.length : Int)) = false := by rw [hlen]; simp
          clear hv hpe hsp hin ha hb' hclash
          go_enter Tryd.func10, Tryd.ntmps10
          go_wp2_with fail
          refine (short_k _ _ _ ps true _ S g1).mono ?_
          rintro e w' ⟨rfl, rfl⟩
          go_wp2_with fail
          refine (short_k _ _ _ qs true _ T g2).mono ?_
          rintro e w' ⟨rfl, rfl⟩
          go_wp2_with fail
          refine (root_k _ _ _ ps x _ S (by omega) (fun j hj => by have := gp j (by omega); omega) HX.out).mono ?_
          rintro e w1 ⟨rfl, hb⟩
          have B1 := B0.trans (hb.mono B0.size)
          have O1 := O0.below hb
          have S := S.below hb
          have T := T.below hb
          clear hb
          go_wp2_with fail
          refine (proves_i x s i (ps.length : Int) _ _ _ qs true _ hi9 (by omega) (by omega) T (by omega) (fun j hj => by have := gq j (by omega); omega) HV.out).mono ?_
          rintro e w2 ⟨rfl, hb⟩
          have B2 := B1.trans (hb.mono B1.size)
          have O2 := O1.below hb
          have S := S.below hb
          have T := T.below hb
          clear hb
          have hc := HC1.out _ B2
          go_wp2_with fail
          refine (rpath_k _ _ _ ps Q i _ _ S (by omega) (fun j hj => by have := gp j (by omega); omega) hil HQ.out rfl).mono ?_
          rintro e w3 ⟨⟨po, pap, rfl, P⟩, hb⟩
          have B3 := B2.trans (hb.mono B2.size)
          have O3 := O2.below hb
          have S := S.below hb
          have T := T.below hb
          clear hb
          have hc := HC1.out _ B3
          go_wp2_with fail
          refine (strings_some_k p i ps.length _ _ _ Q La _ HA.out (by omega) (by omega) hzp P (by have := HF.out.1; omega) HF.out.2).mono ?_
          rintro e w4 ⟨⟨eo, eap, rfl, E⟩, hb⟩
          have B4 := B3.trans (hb.mono B3.size)
          have O4 := O3.below hb
          have T := T.below hb
          clear hb
          go_wp2_with fail
          refine (strings_some_k s i ps.length _ _ _ qs Lb _ HB.out (by omega) (by omega) (by omega) T (by omega) (fun j hj => by have := gq j (by omega); omega)).mono ?_
          rintro e w5 ⟨⟨fo, fap, rfl, G⟩, hb⟩
          have B5 := B4.trans (hb.mono B4.size)
          have O5 := O4.below hb
          have E := E.below hb
          clear hb
          go_wp2_with fail
          have HW1 := Lib.hid (show Below w.heap.size w w5 ∧ PowOk w5 ∧ StrsAt w5 eo La.length eap La ∧ StrsAt w5 fo Lb.length fap Lb from ⟨B5, O5, E, G⟩)
          clear E G S T P B1 B2 B3 B4 B5 O1 O2 O3 O4 O5 hc
          have hLm : La.length ≤ 9223372036854775807 := by have h2 := HW1.out.2.2.1.2.1; have h3 := HW1.out.2.2.1.2.2.1; unfold maxLen at h3; omega
          go_loopw [15] (fun iv wr => ∃ k : Nat, k ≤ La.length ∧ iv = .int .i64 k ∧ Hid (∀ j, j < k → ¬ (partAt La j ≠ partAt Lb j ∧ txtS (partAt La j) = txtS (partAt Lb j))) ∧ Hid (Below w.heap.size w wr ∧ PowOk wr ∧ StrsAt wr eo La.length eap La ∧ StrsAt wr fo Lb.length fap Lb)) (fun iv _ => La.length - (intOf iv).toNat)
          case atStart => exact ⟨0, Nat.zero_le _, rfl, Lib.hid (fun j hj => absurd hj (Nat.not_lt_zero _)), HW1⟩
          case round =>
            obtain ⟨k, hk, rfl, HN, HW⟩ := hrel
            obtain ⟨B1, O1, E, G⟩ := HW.out
            by_cases hlt : k < La.length
            · obtain ⟨eb, ef, rfl, _, ec⟩ := E.at (by omega)
              obtain ⟨fb, ff, rfl, _, fc⟩ := G.at (by omega)
              obtain ⟨u, hue⟩ : ∃ u, u = partAt La k := ⟨_, rfl⟩
              obtain ⟨v, hve⟩ : ∃ u, u = partAt Lb k := ⟨_, rfl⟩
              have HC2 := Lib.hid (show ∀ w', Below wr.heap.size wr w' → w'.cell? ⟨eb, ef + k, none⟩ = some (.string u) ∧ w'.cell? ⟨fb, ff + k, none⟩ = some (.string v) from fun w' hb => ⟨by rw [hue]; exact ec _ hb k hlt, by rw [hve]; exact fc _ hb k (by omega)⟩)
              obtain ⟨c1, c2⟩ := HC2.out _ (Below.refl _ _)
              have zu : u.size ≤ 1000000000 := by rw [hue]; have := HZA.out k hlt; omega
              have zv : v.size ≤ 1000000000 := by rw [hve]; have := HZB.out k (by omega); omega
              have k1 : (0 : Int) ≤ (k : Int) := by omega
              have k2 : (k : Int) < (La.length : Int) := by omega
              have k3 : (k : Int) < (Lb.length : Int) := by omega
              have HU := Lib.hid hue
              have HV2 := Lib.hid hve
              clear ec fc hue hve
              have HB0 := Lib.hid (show Below wr.heap.size wr wr.drew from (Below.refl _ _).drew)
              by_cases huv : u = v
              · have hq2 := str_eq huv
                have hq2n : (u.toList != v.toList) = false := by simp [bne, hq2]
                have HN2 := Lib.hid (show ∀ j, j < k + 1 → ¬ (partAt La j ≠ partAt Lb j ∧ txtS (partAt La j) = txtS (partAt Lb j)) from fun j hj => by
                  by_cases e : j = k
                  · rw [e, ← HU.out, ← HV2.out]; exact fun h => h.1 huv
                  · exact HN.out j (by omega))
                have HW2 := Lib.hid (fun q => (show Below w.heap.size w (wr.drewN q) ∧ PowOk (wr.drewN q) ∧ StrsAt (wr.drewN q) (some ⟨eb, ef, none⟩) La.length eap La ∧ StrsAt (wr.drewN q) (some ⟨fb, ff, none⟩) Lb.length fap Lb from have hq : Below wr.heap.size wr (wr.drewN q) := ⟨rfl, rfl, rfl, Nat.le_refl _, fun _ _ => rfl⟩; ⟨B1.trans (hq.mono B1.size), O1.below hq, E.below hq, G.below hq⟩))
                clear E G hq2 hq2n
                subst huv
                have hq2 : (u.toList == u.toList) = true := beq_self_eq_true _
                go_wp2_with fail
                go_quiet (fail)
                go_wp2_with fail
                go_roundw
                case rel => exact ⟨k + 1, by omega, by go_num, HN2, Lib.hid (HW2.out _)⟩
                case measure => simp [intOf]; omega
              · have hq2 := str_ne huv
                have hq2n : (u.toList != v.toList) = true := by simp [bne, hq2]
                obtain ⟨tu, HTU⟩ : ∃ t, Hid (txtS u = t) := ⟨_, Lib.hid rfl⟩
                obtain ⟨tv, HTV⟩ : ∃ t, Hid (txtS v = t) := ⟨_, Lib.hid rfl⟩
                by_cases htt : tu = tv
                · have hq3 := str_eq htt
                  clear huv htt
                  go_wp2_with fail
                  go_region_held3 (fun w' => w'.cell? ⟨eb, ef + k, none⟩ = some (.string u) ∧ w'.cell? ⟨fb, ff + k, none⟩ = some (.string v))
                    (first | go_keep | exact HC2.out _ (HB0.out.trans (hbu.trans (hbv.mono hbu.size))) | exact HC2.out _ (HB0.out.trans hbu))
                    (first
                      | (go_at_call 16; (with_reducible refine (text_k u tu _ zu HTU.out).mono ?_); rintro e wu ⟨rfl, hbu⟩)
                      | (go_at_call 16; (with_reducible refine (text_k v tv _ zv HTV.out).mono ?_); rintro e wv ⟨rfl, hbv⟩))
                  have hbw := HB0.out.trans (hbu.trans (hbv.mono hbu.size))
                  have B6 := B1.trans (hbw.mono B1.size)
                  have O6 := O1.below hbw
                  clear hbu hbv hbw
                  go_wp2_with fail
                  refine (awake_s _ O6).mono ?_
                  rintro e w7 ⟨rfl, hb⟩
                  have B7 := B6.trans (hb.mono B6.size)
                  clear hb
                  go_wp2_with fail
                  go_ret
                  exact ⟨rfl, B7⟩
                · have hq3 := str_ne htt
                  have HN2 := Lib.hid (show ∀ j, j < k + 1 → ¬ (partAt La j ≠ partAt Lb j ∧ txtS (partAt La j) = txtS (partAt Lb j)) from fun j hj => by
                    by_cases e : j = k
                    · rw [e, ← HU.out, ← HV2.out, HTU.out, HTV.out]; exact fun h => htt h.2
                    · exact HN.out j (by omega))
                  clear huv htt
                  go_wp2_with fail
                  go_region_held3 (fun w' => w'.cell? ⟨eb, ef + k, none⟩ = some (.string u) ∧ w'.cell? ⟨fb, ff + k, none⟩ = some (.string v))
                    (first | go_keep | exact HC2.out _ (HB0.out.trans (hbu.trans (hbv.mono hbu.size))) | exact HC2.out _ (HB0.out.trans hbu))
                    (first
                      | (go_at_call 16; (with_reducible refine (text_k u tu _ zu HTU.out).mono ?_); rintro e wu ⟨rfl, hbu⟩)
                      | (go_at_call 16; (with_reducible refine (text_k v tv _ zv HTV.out).mono ?_); rintro e wv ⟨rfl, hbv⟩))
                  have hbw := HB0.out.trans (hbu.trans (hbv.mono hbu.size))
                  have HW2 := Lib.hid (show Below w.heap.size w wv ∧ PowOk wv ∧ StrsAt wv (some ⟨eb, ef, none⟩) La.length eap La ∧ StrsAt wv (some ⟨fb, ff, none⟩) Lb.length fap Lb from ⟨B1.trans (hbw.mono B1.size), O1.below hbw, E.below hbw, G.below hbw⟩)
                  clear hbu hbv hbw E G
                  go_wp2_with fail
                  go_roundw
                  case rel => exact ⟨k + 1, by omega, by go_num, HN2, HW2⟩
                  case measure => simp [intOf]; omega
            · obtain ⟨j, j1, j2, j3, j4⟩ := HCL.out
              exact absurd ⟨j3, j4⟩ (HN.out j (by omega))

theorem binds_types : ∀ t ∈ [35, 9, 3, 35], Tryd.prog.readableRec t = true ∧ t < Tryd.prog.types.size := by
  have h : ([35, 9, 3, 35].all fun t => Tryd.prog.readableRec t && decide (t < Tryd.prog.types.size)) = true := by kernel_rfl
  intro t ht
  have := List.all_eq_true.1 h t ht
  simpa using this

set_option maxRecDepth 100000 in
theorem binds_contract (H : Type) (enc : TypeId × Value → H) (W : World) (base : Nat) (args : Array Value) (ds gs : List (DataW H)) (before : List MemPlace)
    (hval : ∀ (j : Nat) t v, Tryd.f10.params[j]? = some t → args[j]? = some v → Value.okWide Tryd.prog W .any base t v)
    (hW : DataW.Whole enc Tryd.prog Tryd.f10.params.toList Rows.digestBindsSpec.vars false W args.toList ds gs before) (hL : laidMetH Tryd.prog Rows.digestBindsRow.laid W) (hsh : W.ShapedOpen Tryd.prog) :
    Calls Tryd.prog 10 args W fun e W' => ∃ v, e = .returned v ∧ Rows.digestBindsSpec.post enc Tryd.prog Tryd.f10 false true false false W args v W' := by
  have hW' := hW
  obtain ⟨p, q, hA0, hV, rfl, hfz, hnd⟩ := hW
  have hA : DataW.TrodAll enc Tryd.prog W 0 (fun _ => true) true Tryd.f10.params.toList args.toList ds p := hA0
  obtain ⟨rfl, rfl⟩ := trodVars_none hV
  simp only [List.append_nil] at hW'
  have hlt : ∀ x ∈ p, x.block < W.heap.size := fun x hx => by simpa using hW'.lt x hx
  have fin : ∀ W', Below W.heap.size W W' → DataW.TrodAll enc Tryd.prog W' 0 (fun b => decide (b < W.heap.size)) true [35, 9, 3, 35] args.toList ds p := fun W' hb => by
    rw [Tryd.params10] at hA
    exact trodAll_below hb _ _ _ _ binds_types hA hlt
  clear hA0
  rw [Tryd.params10] at hA hval
  obtain ⟨v0, vs0, d0, ds0, p0, q0, hargs, rfl, hp0, h0, r0⟩ := trodAll_cons hA
  obtain ⟨v1, vs1, d1, ds1, p1, q1, rfl, rfl, hp1, h1, r1⟩ := trodAll_cons r0
  obtain ⟨v2, vs2, d2, ds2, p2, q2, rfl, rfl, hp2, h2, r2⟩ := trodAll_cons r1
  obtain ⟨v3, vs3, d3, ds3, p3, q3, rfl, rfl, hp3, h3, r3⟩ := trodAll_cons r2
  obtain ⟨rfl, rfl, rfl⟩ := trodAll_nil r3
  obtain rfl : args = #[v0, v1, v2, v3] := by cases args; simp_all
  obtain ⟨l, ln, lc, ll, rfl, hs0⟩ := open_strs (hval 0 35 v0 rfl rfl) h0
  obtain ⟨s, rfl, rfl, rfl, hs1⟩ := open_string Tryd.underlying9 (hval 1 9 v1 rfl rfl) h1
  obtain ⟨i, rfl, rfl, rfl, hs2⟩ := open_int Tryd.underlying3 (hval 2 3 v2 rfl rfl) h2
  obtain ⟨q, qn, qc, ql, rfl, hs3⟩ := open_strs (hval 3 35 v3 rfl rfl) h3
  refine (binds_s l ln lc ll s i q qn qc ql W hs0 hs2 hs3 (pok hL)).mono fun e W' ⟨he, hb⟩ => ?_
  subst he
  exact ⟨_, rfl, _, _, _, [], p, [], hW', trodAll_mk1 (shut_bool Tryd.underlying4 _), fin W' hb, rfl, hb.frame _, fun h => by cases h⟩

set_option maxRecDepth 100000 in
theorem binds_lifted (os : Os) (started : os.Started) (H : Type) (enc : TypeId × Value → H) (F : Stop.Interp) :
    ReturnsInHanded {} Tryd.checked os 10 .any ((OpenSpec.ofChange Rows.digestBindsSpec).preRow enc Tryd.prog Tryd.f10 Rows.digestBindsRow.domain false Rows.digestBindsRow.laid) (((OpenSpec.ofChange Rows.digestBindsSpec).at F).post enc Tryd.prog Tryd.f10 false true false false) := by
  refine returnsInHanded_of_row (C := Tryd.checked) (s := OpenSpec.ofChange Rows.digestBindsSpec) own started (by kernel_rfl) Tryd.func10
    (witness_row (enc := enc) (C := Tryd.checked) false (World.laidAll Tryd.prog os Rows.digestBindsRow.laid) #[.slice none 0 0, .string ⟨#[]⟩, .int .i64 0, .slice none 0 0] (World.laidAll_os _ _ _)
      (World.shaped_of_ZipB (by kernel_rfl) (by kernel_rfl)) (by kernel_rfl)
      (OpenSpec.preRow_of_cond 8 (x := ([.nil, .lit (.string []), .lit (.int .i64 0), .nil], [], [])) (by kernel_rfl) (by kernel_rfl) (fun k hk => by cases hk) (by kernel_rfl)
        (by rw [MakeChecks.laidMetH_plain _ _ _ (by kernel_rfl)]; exact laidMet_laidAll _ (by kernel_rfl) (by kernel_rfl)))) ?_
  intro W base args ds gs before hval hW _ _ _ hL hsh _
  exact binds_contract H enc W base args ds gs before hval hW hL hsh

set_option maxRecDepth 100000 in
theorem binds_said : Rows.DigestBindsSaid :=
  OpenClaim.holds_of_cond 10 Tryd.f10 rfl rfl rfl rfl rfl rfl rfl ⟨rfl, rfl, rfl, rfl, rfl⟩ rfl rfl rfl rfl rfl (by kernel_rfl) Tryd.func10 (by kernel_rfl)
    (of_decide_eq_true (by kernel_rfl)) (by unfold Func.isWrapper; first | (rw [if_pos (by decide +kernel)]; kernel_rfl) | (rw [if_neg (by decide +kernel)]; exact ⟨rfl, rfl⟩))
    (fun os started H enc _ F => by rw [OpenClaim.pre_eq_preRow]; exact binds_lifted os started H enc F)

set_option maxRecDepth 100000 in
theorem binds_plain (f : FuncId) (fn : Func) (hf : Tryd.pinned.checked.prog.funcNamed "identity/identitylaw03.DigestBinds" = some f) (hfn : Tryd.pinned.checked.prog.funcs[f]? = some fn) :
    false = Tryd.pinned.checked.prog.looks [] ∧ ∀ (j : Nat) t, fn.params[j]? = some t → Tryd.pinned.checked.prog.wantsStandIn t = false := by
  obtain rfl : f = 10 := Option.some.inj ((show Tryd.prog.funcNamed "identity/identitylaw03.DigestBinds" = some 10 by kernel_rfl).symm.trans hf) |>.symm
  obtain rfl : fn = Tryd.f10 := (Option.some.inj (Tryd.func10.symm.trans hfn)).symm
  refine ⟨by kernel_rfl, fun j t ht => ?_⟩
  rw [Tryd.params10] at ht
  have hm : t ∈ [35, 9, 3, 35] := by simpa using Array.mem_of_getElem? ht
  have hall : ([35, 9, 3, 35].all fun u => !Tryd.prog.wantsStandIn u) = true := by kernel_rfl
  exact (show Tryd.prog.wantsStandIn t = false by simpa using List.all_eq_true.1 hall t hm)

/-- THE CARD -/
theorem binds_card : Rows.DigestBindsCardSaid :=
  Claim7.holds_tied_plain_at .later [] _ _ _ _ binds_said (fun _ h => by cases h) (by kernel_rfl) (fun _ h => by cases h) digestBinds_row_tie rfl ⟨rfl, rfl⟩ (by kernel_rfl) rfl binds_plain (by kernel_rfl)
end Go.Proofs.YtnncfifpgjlpaaaDoor
