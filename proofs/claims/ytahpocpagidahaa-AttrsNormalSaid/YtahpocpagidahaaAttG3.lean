/-
  Contract of the laws' examples: awake returns true. No condition.
-/
import Derived.Test.YtahpocpagidahaaAttG2
set_option linter.unusedVariables false
set_option linter.unusedSimpArgs false
set_option linter.unnecessarySimpa false
namespace Go.Proofs.Ytahpocpagidahaa
open Go.RowKit Go.PlainAid

/-- an append that a guard lets through -/
theorem app_guarded {ops : Array Oper} {rest : List Oper} {o : Oper} {a : Act} {Q : Exit → Act → World → Prop} (wr : World) (s x : Operand) (vs vx v' : Value) (w' : World) (hw : Region.wanted o (yielded ops a.tmps) = true)
    (ho : o.op = .call { callee := .builtin .append, args := #[s, x], argTypes := #[22, 22] }) (hs : a.eval s = vs) (hx : a.eval x = vx)
    (hrun : (Builtin.append_ #[22, 22] o.type #[vs, vx]).run Try.prog wr = .ok v' w') (h : wpList Try.prog ops Q rest (a.put o.dst v') w') : wpList Try.prog ops Q (o :: rest) a wr := by
  unfold wpList
  rw [if_pos hw]
  left
  unfold Oper.wp execOp
  simp only [ho, resolve, invoke, builtin, Sem.run_bind, Sem.run_pure, Result.andThen_ok, List.map_toArray, List.map_cons, List.map_nil, hs, hx, hrun]
  exact h
set_option maxRecDepth 100000 in
set_option maxHeartbeats 16000000 in
theorem awake_s (w : World) : Calls Try.prog 11 #[] w fun e w' => e = .returned (.bool true) ∧ Below w.heap.size w w' := by
  obtain ⟨W1, hW1⟩ : ∃ x, w.alloc (.cells #[.string ⟨#[109]⟩] 9) = x := ⟨_, rfl⟩
  obtain ⟨W2, hW2⟩ : ∃ x, W1.alloc (.cells #[.string ⟨#[98]⟩, .string ⟨#[97]⟩] 9) = x := ⟨_, rfl⟩
  obtain ⟨W3, hW3⟩ : ∃ x, W2.alloc (.cells #[.string ⟨#[77, 65, 73, 76]⟩, .slice (some ⟨w.heap.size, 0, none⟩) 1 1, .string ⟨#[99, 110]⟩, .slice (some ⟨W1.heap.size, 0, none⟩) 2 2] 42) = x := ⟨_, rfl⟩
  have b1 : Below w.heap.size w W1 := by rw [← hW1]; exact (Below.refl _ w).alloc (Nat.le_refl _) _
  have b2 : Below W1.heap.size W1 W2 := by rw [← hW2]; exact (Below.refl _ W1).alloc (Nat.le_refl _) _
  have b3 : Below W2.heap.size W2 W3 := by rw [← hW3]; exact (Below.refl _ W2).alloc (Nat.le_refl _) _
  have s1 : StrsAt W1 (some ⟨w.heap.size, 0, none⟩) 1 1 [⟨#[109]⟩] := by rw [← hW1]; exact strs_new w [⟨#[109]⟩] (by decide)
  have s2 : StrsAt W2 (some ⟨W1.heap.size, 0, none⟩) 2 2 [⟨#[98]⟩, ⟨#[97]⟩] := by rw [← hW2]; exact strs_new W1 [⟨#[98]⟩, ⟨#[97]⟩] (by decide)
  have t3 : TsAt W3 (some ⟨W2.heap.size, 0, none⟩) 2 2 [(⟨#[77, 65, 73, 76]⟩, .slice (some ⟨w.heap.size, 0, none⟩) 1 1, [⟨#[109]⟩]), (⟨#[99, 110]⟩, .slice (some ⟨W1.heap.size, 0, none⟩) 2 2, [⟨#[98]⟩, ⟨#[97]⟩])] := by
    rw [← hW3]; exact ts_new W2 [(⟨#[77, 65, 73, 76]⟩, .slice (some ⟨w.heap.size, 0, none⟩) 1 1, [⟨#[109]⟩]), (⟨#[99, 110]⟩, .slice (some ⟨W1.heap.size, 0, none⟩) 2 2, [⟨#[98]⟩, ⟨#[97]⟩])] (by show 2 ≤ maxLen; unfold maxLen; omega)
  have hA : AttrsAt W3 (some ⟨W2.heap.size, 0, none⟩) 2 2 exL := ts_ats t3 (fun t ht => by
    rcases List.mem_cons.1 ht with rfl | ht
    · exact ⟨_, _, _, rfl, (s1.below b2).below b3⟩
    · rw [List.mem_singleton.1 ht]; exact ⟨_, _, _, rfl, s2.below b3⟩)
  have ht3o : TOk W3 [(⟨#[77, 65, 73, 76]⟩, .slice (some ⟨w.heap.size, 0, none⟩) 1 1, [⟨#[109]⟩]), (⟨#[99, 110]⟩, .slice (some ⟨W1.heap.size, 0, none⟩) 2 2, [⟨#[98]⟩, ⟨#[97]⟩])] := fun t ht => by
    rcases List.mem_cons.1 ht with rfl | ht
    · exact ⟨_, _, _, rfl, (s1.below b2).below b3⟩
    · rw [List.mem_singleton.1 ht]; exact ⟨_, _, _, rfl, s2.below b3⟩
  have hs1 : W1.heap.size = w.heap.size + 1 := by rw [← hW1]; simp
  have hs2 : W2.heap.size = w.heap.size + 1 + 1 := by rw [← hW2]; simp [hs1]
  have HB0 := Lib.hid (b1.trans ((b2.trans (b3.mono b2.size)).mono b1.size))
  rw [hs2] at hA t3
  rw [hs1] at hW3 t3 ht3o
  have HT3 := Lib.hid t3
  have HT3O := Lib.hid ht3o
  have HA := Lib.hid hA
  have H1 := Lib.hid (sorted_s _ 2 2 exL W3 hA exL_few)
  rw [ex1] at H1
  rw [← hW2, ← hW1] at hW3
  clear b1 b2 b3 s1 s2 t3 hA ht3o hs1 hs2 hW1 hW2
  obtain ⟨L, hL⟩ : ∃ x, w.heap.size + 1 + 1 = x := ⟨_, rfl⟩
  rw [hL] at HA HT3 H1
  go_enter Try.func11, Try.ntmps11
  go_wp2_with fail

  clear hW3 hL
  refine H1.out.mono ?_
  rintro e w1 ⟨v, T, rfl, hT, hTO, _, hown, hb⟩
  have HB1 := Lib.hid hb
  obtain ⟨h1, h2, rfl⟩ := two_of hT
  obtain ⟨_, xo, xc, rfl, hat, _⟩ := ts_owns hown
  obtain ⟨xb, xoff, rfl, _, _⟩ := hat.2.2.2 (show (0 : Nat) < 2 by decide)
  obtain ⟨z0, z1⟩ := ts_at hat 0 (show (0 : Nat) < 2 by decide)
  obtain ⟨z2, z3⟩ := ts_at hat 1 (show (1 : Nat) < 2 by decide)
  have hxc : xc ≤ 9223372036854775807 := hat.2.2.1
  have hxc2 : 2 ≤ xc := hat.2.1
  obtain ⟨yo, yn, yc, rfl, hy⟩ := hTO.ok _ (List.mem_cons_self ..)
  obtain rfl : yn = 2 := hy.1.symm
  obtain ⟨yb, yoff, rfl, _, hyc⟩ := hy.2.2.2 (by decide)
  have zc := hyc 0 (show (0 : Nat) < 2 by decide)
  have a0 : w1.cell? ⟨xb, xoff, none⟩ = some (.string ⟨#[99, 110]⟩) := z0
  have a1 : w1.cell? ⟨xb, xoff + 1, none⟩ = some (.slice (some ⟨yb, yoff, none⟩) 2 yc) := z1
  have a2 : w1.cell? ⟨xb, xoff + 2, none⟩ = some (.string ⟨#[109, 97, 105, 108]⟩) := z2
  have c0 : w1.cell? ⟨yb, yoff, none⟩ = some (.string ⟨#[97]⟩) := zc
  have HC2 := Lib.hid (add_s _ (some ⟨w1.heap.size, 0, none⟩) 2 2 1 1 exL ⟨#[67, 78]⟩ [⟨#[99]⟩] (w1.alloc (.cells #[.string ⟨#[99]⟩] 9)) ((HA.out.below hb).below ((Below.refl _ w1).alloc (Nat.le_refl _) _)) (strs_new w1 [⟨#[99]⟩] (by decide)) (edit_dec (by decide +kernel) (by decide +kernel)) (by decide))
  rw [ex2] at HC2
  clear hT hTO hown hb hat hy hyc H1 z0 z1 z2 z3 zc
  go_wp2_with fail

  refine HC2.out.mono ?_
  rintro e w2 ⟨va, rfl, ⟨ao, an, ac, rfl, hva⟩, hb⟩
  have HB2 := Lib.hid ((HB1.out.alloc HB1.out.size _).trans (hb.mono (Nat.le_trans HB1.out.size (by simp))))
  have HVA := Lib.hid hva
  have HC3 := Lib.hid (add_s _ (some ⟨w2.heap.size, 0, none⟩) 2 2 1 1 exL ⟨#[99, 110]⟩ [⟨#[97]⟩] (w2.alloc (.cells #[.string ⟨#[97]⟩] 9)) ((HA.out.below HB2.out).below ((Below.refl _ w2).alloc (Nat.le_refl _) _)) (strs_new w2 [⟨#[97]⟩] (by decide)) (edit_dec (by decide +kernel) (by decide +kernel)) (by decide))
  rw [ex3] at HC3
  clear hva hb HC2
  go_wp2_with fail
  refine HC3.out.mono ?_
  rintro e w3 ⟨vx, rfl, _, hb⟩
  have HB3 := Lib.hid ((HB2.out.alloc HB2.out.size _).trans (hb.mono (Nat.le_trans HB2.out.size (by simp))))
  have HB23 := Lib.hid (((Below.refl _ w2).alloc (Nat.le_refl _) (.cells #[.string ⟨#[97]⟩] 9)).trans (hb.mono (by simp)))
  have HC4 := Lib.hid (rem_s _ none 2 2 0 0 exL ⟨#[109, 97, 105, 108]⟩ [] w3 (HA.out.below HB3.out) (strs_nil w3) (edit_dec (by decide +kernel) (by decide +kernel)) (by decide))
  rw [ex4] at HC4
  clear hb HC3
  go_wp2_with fail
  refine HC4.out.mono ?_
  rintro e w4 ⟨vb, rfl, ⟨bo, bn, bc, rfl, hvb⟩, hb⟩
  have HB4 := Lib.hid (HB3.out.trans (hb.mono HB3.out.size))
  have HB24 := Lib.hid (HB23.out.trans (hb.mono HB23.out.size))
  obtain rfl : bn = 1 := hvb.1.symm
  have HC5 := Lib.hid (rem_s bo none 1 bc 0 0 exB ⟨#[109, 97, 105, 108]⟩ [] w4 hvb (strs_nil w4) (edit_dec (by decide +kernel) (by decide +kernel)) (by decide))
  rw [ex5] at HC5
  clear hb HC4 hvb
  go_wp2_with fail
  refine HC5.out.mono ?_
  rintro e w5 ⟨vy, rfl, _, hb⟩
  have HB5 := Lib.hid (HB4.out.trans (hb.mono HB4.out.size))
  have HB25 := Lib.hid (HB24.out.trans (hb.mono HB24.out.size))
  have HC6 := Lib.hid (rep_s _ none 2 2 0 0 exL ⟨#[120]⟩ [] w5 (HA.out.below HB5.out) (strs_nil w5) (edit_dec (by decide +kernel) (by decide +kernel)) (by decide))
  rw [ex6] at HC6
  clear hb HC5
  go_wp2_with fail
  refine HC6.out.mono ?_
  rintro e w6 ⟨vc, rfl, ⟨co, cn, cc, rfl, hvc⟩, hb⟩
  have HB6 := Lib.hid (HB5.out.trans (hb.mono HB5.out.size))
  have HVC := Lib.hid hvc
  have HB26 := Lib.hid (HB25.out.trans (hb.mono HB25.out.size))
  have HC7 := Lib.hid (get_s ao an ac exA ⟨#[99, 110]⟩ w6 (HVA.out.below HB26.out) exA_few (by decide))
  rw [ex7] at HC7
  clear hb HC6 hvc
  go_wp2_with fail
  refine HC7.out.mono ?_
  rintro e w7 ⟨vg, rfl, ⟨go, gn, gc, rfl, hvg⟩, hb⟩
  have HB7 := Lib.hid (HB6.out.trans (hb.mono HB6.out.size))
  obtain rfl : gn = 3 := hvg.1.symm
  obtain ⟨gb, goff, rfl, _, hgc⟩ := hvg.2.2.2 (by decide)
  have g2 : w7.cell? ⟨gb, goff + 2, none⟩ = some (.string ⟨#[99]⟩) := hgc 2 (by decide)
  have HC8 := Lib.hid (equal_s co _ cn 2 cc 2 exN exL w7 (HVC.out.below hb) (HA.out.below HB7.out) exN_few exL_few)
  rw [ex8] at HC8
  clear hb HC7 hvg hgc
  go_wp2_with fail
  refine HC8.out.mono ?_
  rintro e w8 ⟨rfl, hb⟩
  have HB8 := Lib.hid (HB7.out.trans (hb.mono HB7.out.size))
  have HC9 := Lib.hid (check_s _ 2 2 exL w8 (HA.out.below HB8.out) exL_few.small (fun a ha => Nat.le_trans (sumV_mem ha) (by decide +kernel)))
  rw [ex9] at HC9
  clear hb HC8
  go_wp2_with fail
  refine HC9.out.mono ?_
  rintro e w9 ⟨rfl, hb⟩
  have HB9 := Lib.hid (HB8.out.trans (hb.mono HB8.out.size))
  clear hb HC9
  obtain ⟨V1, hV1⟩ : ∃ x, w9.alloc (.cells #[.string ⟨#[122]⟩] 9) = x := ⟨_, rfl⟩
  obtain ⟨V2, hV2⟩ : ∃ x, V1.alloc (.cells #[.string ⟨#[67, 78]⟩, .slice (some ⟨w9.heap.size, 0, none⟩) 1 1] 42) = x := ⟨_, rfl⟩
  have b1 : Below w9.heap.size w9 V1 := by rw [← hV1]; exact (Below.refl _ w9).alloc (Nat.le_refl _) _
  have b2 : Below V1.heap.size V1 V2 := by rw [← hV2]; exact (Below.refl _ V1).alloc (Nat.le_refl _) _
  have z1 : StrsAt V1 (some ⟨w9.heap.size, 0, none⟩) 1 1 [⟨#[122]⟩] := by rw [← hV1]; exact strs_new w9 [⟨#[122]⟩] (by decide)
  have z2 : TsAt V2 (some ⟨V1.heap.size, 0, none⟩) 1 1 [(⟨#[67, 78]⟩, .slice (some ⟨w9.heap.size, 0, none⟩) 1 1, [⟨#[122]⟩])] := by rw [← hV2]; exact ts_new1 V1 _
  have HZK : Hid (TOk V2 [(⟨#[67, 78]⟩, .slice (some ⟨w9.heap.size, 0, none⟩) 1 1, [⟨#[122]⟩])]) := Lib.hid (fun t ht => by rw [List.mem_singleton.1 ht]; exact ⟨_, _, _, rfl, z1.below b2⟩)
  have hs1 : V1.heap.size = w9.heap.size + 1 := by rw [← hV1]; simp
  rw [hs1] at z2
  have HZ2 := Lib.hid z2
  have HBV := Lib.hid (HB9.out.trans ((b1.trans (b2.mono b1.size)).mono HB9.out.size))
  have HTV := Lib.hid (HT3.out.below HBV.out)
  have HTK := Lib.hid (HT3O.out.below HBV.out)
  clear b1 b2 z1 z2 hs1
  subst hV2
  subst hV1
  obtain ⟨i0, hi, hz0, hz1, hz2⟩ := info_parts info_attr
  obtain ⟨v10, w10, hrun, hown10, hg10⟩ := run_append_arg_grows (P := Try.prog) _ 22 22 42 i0 (.agg #[.string ⟨#[]⟩, .slice none 0 0]) 2 40 Try.underlying22 hi hz0 hz1 hz2 rfl (by decide) ⟨L, 0, none⟩ 2 2 _ (tcells_len _) (ts_news HTV.out) ⟨w9.heap.size + 1, 0, none⟩ 1 1 _ (tcells_len _) (ts_news HZ2.out) (show 2 < 2 + 1 by decide) (by unfold maxLen; omega) (by omega)
  have hb10 := (Below.refl _ _).grown hg10 (Nat.le_refl _) (fun k hk => by cases hk)
  rw [← tcells_append] at hown10
  obtain ⟨_, qo, qc, rfl, hqt, _⟩ := ts_owns hown10
  have hqa := ts_ats hqt ((HTK.out.app HZK.out).below hb10)
  have HQ := Lib.hid (show AttrsAt w10 qo 3 qc (exL ++ [(⟨#[67, 78]⟩, [⟨#[122]⟩])]) from hqa)
  have HB10 := Lib.hid (HBV.out.trans (hb10.mono HBV.out.size))
  have HC11 := Lib.hid (check_s qo 3 qc _ w10 HQ.out exZ_few.small (fun a ha => Nat.le_trans (sumV_mem ha) (by decide +kernel)))
  rw [ex10] at HC11
  clear hown10 hg10 hb10 hqt hqa hi hz0 hz1 hz2
  have HRN := Lib.hid hrun
  clear hrun
  go_wp2_with (at_builtin; go_must (refine app_guarded _ (.tmp 129) (.tmp 132) _ _ _ _ ?_ ?_ ?_ ?_ HRN.out ?_; exact rfl; exact rfl; exact rfl; exact rfl))
  refine HC11.out.mono ?_
  rintro e w11 ⟨rfl, hb⟩
  have HB11 := Lib.hid (HB10.out.trans (hb.mono HB10.out.size))
  have HC12 := Lib.hid (hasv_s _ 2 2 exL ⟨#[109, 97, 105, 108]⟩ ⟨#[109]⟩ w11 (HA.out.below HB11.out) exL_few (by decide))
  rw [ex11] at HC12
  clear hb HC11
  go_wp2_with fail
  refine HC12.out.mono ?_
  rintro e w12 ⟨rfl, hb⟩
  have HB12 := Lib.hid (HB11.out.trans (hb.mono HB11.out.size))
  have HC13 := Lib.hid (hasv_s _ 2 2 exL ⟨#[109, 97, 105, 108]⟩ ⟨#[77]⟩ w12 (HA.out.below HB12.out) exL_few (by decide))
  rw [ex12] at HC13
  clear hb HC12
  go_wp2_with fail
  refine HC13.out.mono ?_
  rintro e w13 ⟨rfl, hb⟩
  have HB13 := Lib.hid (HB12.out.trans (hb.mono HB12.out.size))
  have HC14 := Lib.hid (pick_s _ (some ⟨w13.heap.size, 0, none⟩) 2 2 2 2 exL [⟨#[77, 65, 73, 76]⟩, ⟨#[111, 116, 104, 101, 114]⟩] (w13.alloc (.cells #[.string ⟨#[77, 65, 73, 76]⟩, .string ⟨#[111, 116, 104, 101, 114]⟩] 9)) ((HA.out.below HB13.out).below ((Below.refl _ w13).alloc (Nat.le_refl _) _)) (strs_new w13 [⟨#[77, 65, 73, 76]⟩, ⟨#[111, 116, 104, 101, 114]⟩] (by decide)) exL_few (small_dec (by decide +kernel)) (by omega))
  clear hb HC13
  go_wp2_with fail
  refine HC14.out.mono ?_
  rintro e w14 ⟨vp, rfl, ⟨po, pn, pc, rfl, hpp⟩, hb⟩
  have hpn : pn = 1 := by rw [← hpp.1]; exact ex13
  subst hpn
  have HB14 := Lib.hid ((HB13.out.alloc HB13.out.size _).trans (hb.mono (Nat.le_trans HB13.out.size (by simp))))
  have HC15 := Lib.hid (names_s _ 2 2 exL w14 (HA.out.below HB14.out) exL_few)
  clear hb HC14 hpp
  go_wp2_with fail
  refine HC15.out.mono ?_
  rintro e w15 ⟨vn, rfl, ⟨no, nn, nc, rfl, hnn⟩, hb⟩
  have hn2 : nn = 2 := by rw [← hnn.1]; exact ex14
  subst hn2
  have HB15 := Lib.hid (HB0.out.trans ((HB14.out.trans (hb.mono HB14.out.size)).mono HB0.out.size))
  clear hb HC15 hnn
  go_wp2_with fail
  go_ret
  exact ⟨rfl, HB15.out⟩

end Go.Proofs.Ytahpocpagidahaa
