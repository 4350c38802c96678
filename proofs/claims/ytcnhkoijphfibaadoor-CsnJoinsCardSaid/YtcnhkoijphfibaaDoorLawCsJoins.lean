/-
  Proved: identitylaw15.CsnJoins returns true for every three lists of numbers (the tied card). No condition beyond the row's own.
-/
import Derived.Test.YtcnhkoijphfibaaDoorCsnLaws
import Derived.Test.YtcnhkoijphfibaaDoorCsnR4
set_option linter.unusedVariables false
set_option linter.unusedSimpArgs false
set_option linter.unnecessarySimpa false
namespace Go.Proofs.YtcnhkoijphfibaaDoor
open Go.ChangeShapes Go.WideShapes Go.ChangeAt Go.RowKit Go.PlainAid
open Go.ChangeMaps (open_string shut_string)

theorem few_k (ao : Option Addr) (n cap : Nat) (r : Bool) (w : World) (h : decide (n ≤ 12) = r) :
    Calls Tryd.prog 24 #[.slice ao n cap] w fun e w' => e = .returned (.bool r) ∧ w = w' := by subst h; exact few_s ao n cap w
theorem rjoin_k (ao bo : Option Addr) (n m cap dap : Nat) (l k r : List Cn) (w : World) (h : CnsAt w ao n cap l) (hk : CnsAt w bo m dap k) (hn : n ≤ 100000) (hm : m ≤ 100000) (hr : joinC l k = r) :
    Calls Tryd.prog 33 #[.slice ao n cap, .slice bo m dap] w fun e w' => ∃ xo q xc, e = .returned (.slice xo q xc) ∧ CnsAt w' xo q xc r ∧ Below w.heap.size w w' := by
  subst hr; exact rjoin_s ao bo n m cap dap l k w h hk hn hm
theorem rwithin_k (ao bo : Option Addr) (n m cap dap : Nat) (l k : List Cn) (r : Bool) (w : World) (h : CnsAt w ao n cap l) (hk : CnsAt w bo m dap k) (hr : witC l k = r) :
    Calls Tryd.prog 35 #[.slice ao n cap, .slice bo m dap] w fun e w' => e = .returned (.bool r) ∧ Below w.heap.size w w' := by
  subst hr; exact rwithin_s ao bo n m cap dap l k w h hk
theorem join_len (l k : List Cn) : (joinC l k).length ≤ 8 := by
  unfold joinC lstC
  have := List.length_filterMap_le (fun (j : Nat) => bstC (j : Int) (vecO l ++ vecO k)) (List.range 8)
  simpa using this
set_option maxRecDepth 100000 in
set_option maxHeartbeats 16000000 in
theorem joins_s (a : Option Addr) (an ac : Nat) (al : List Cn) (b : Option Addr) (bn bc : Nat) (bl : List Cn) (c : Option Addr) (cn cc : Nat) (cl : List Cn) (w : World) (ha : CnsAt w a an ac al) (hb : CnsAt w b bn bc bl) (hc : CnsAt w c cn cc cl) (ho : WOk w) :
    Calls Tryd.prog 9 #[.slice a an ac, .slice b bn bc, .slice c cn cc] w fun e w' => e = .returned (.bool true) ∧ Below w.heap.size w w' := by
  have HW := Lib.hid (Below.refl w.heap.size w)
  have HO := Lib.hid ho
  have HA := Lib.hid ha
  have HB := Lib.hid hb
  have HC := Lib.hid hc
  clear ha hb hc ho
  by_cases fa : an ≤ 12
  · by_cases fb : bn ≤ 12
    · by_cases fc : cn ≤ 12
      · have LA := Lib.hid fa
        have LB := Lib.hid fb
        have LC := Lib.hid fc
        obtain ⟨j, hj⟩ : ∃ j, joinC al bl = j := ⟨_, rfl⟩
        obtain ⟨g, hg⟩ : ∃ g, joinC bl cl = g := ⟨_, rfl⟩
        obtain ⟨q, hq⟩ : ∃ q, joinC j cl = q := ⟨_, rfl⟩
        obtain ⟨p, hp⟩ : ∃ p, witC al bl = p := ⟨_, rfl⟩
        have E1 := Lib.hid (show joinC bl al = j by rw [join_comm, hj])
        have E2 := Lib.hid (show joinC al g = q by rw [← hg, ← hq, ← hj, join_assoc])
        have E3 := Lib.hid (show joinC j j = j from join_idem (by rw [← hj]; exact join_vec al bl))
        have E4 := Lib.hid (show chkC j = 0 by rw [← hj]; exact chk_join al bl)
        have qp : (p == p) = true := beq_self_eq_true _
        have J1 := Lib.hid hj
        have J2 := Lib.hid hg
        have J3 := Lib.hid hq
        have J4 := Lib.hid hp
        have N1 := Lib.hid (show j.length ≤ 8 by rw [← hj]; exact join_len _ _)
        have N2 := Lib.hid (show g.length ≤ 8 by rw [← hg]; exact join_len _ _)
        clear hj hg hq hp
        go_enter Tryd.func9, Tryd.ntmps9
        go_wp2_with fail
        refine (few_k a an ac true _ (decide_eq_true (by omega))).mono ?_
        rintro e w' ⟨rfl, rfl⟩
        go_wp2_with fail
        refine (few_k b bn bc true _ (decide_eq_true (by omega))).mono ?_
        rintro e w' ⟨rfl, rfl⟩
        go_wp2_with fail
        refine (few_k c cn cc true _ (decide_eq_true (by omega))).mono ?_
        rintro e w' ⟨rfl, rfl⟩
        go_wp2_with fail
        refine (join_k a b an bn ac bc al bl j _ HA.out HB.out (by have := LA.out; omega) (by have := LB.out; omega) J1.out).mono ?_
        rintro e w1 ⟨vjo, vjn, vjc, rfl, hv, hb⟩
        have HW := Lib.hid (HW.out.trans (hb.mono HW.out.size))
        have HO := Lib.hid (HO.out.below hb)
        have HA := Lib.hid (HA.out.below hb)
        have HB := Lib.hid (HB.out.below hb)
        have HC := Lib.hid (HC.out.below hb)
        clear hb
        have VJ := Lib.hid hv
        clear hv
        go_wp2_with fail
        refine (rjoin_k a b an bn ac bc al bl j _ HA.out HB.out (by have := LA.out; omega) (by have := LB.out; omega) J1.out).mono ?_
        rintro e w2 ⟨vko, vkn, vkc, rfl, hv, hb⟩
        have HW := Lib.hid (HW.out.trans (hb.mono HW.out.size))
        have HO := Lib.hid (HO.out.below hb)
        have HA := Lib.hid (HA.out.below hb)
        have HB := Lib.hid (HB.out.below hb)
        have HC := Lib.hid (HC.out.below hb)
        have VJ := Lib.hid (VJ.out.below hb)
        clear hb
        have VK := Lib.hid hv
        clear hv
        go_wp2_with fail
        refine (same_k vjo vko vjn vkn vjc vkc j j true _ VJ.out VK.out (decide_eq_true rfl)).mono ?_
        rintro e w3 ⟨rfl, hb⟩
        have HW := Lib.hid (HW.out.trans (hb.mono HW.out.size))
        have HO := Lib.hid (HO.out.below hb)
        have HA := Lib.hid (HA.out.below hb)
        have HB := Lib.hid (HB.out.below hb)
        have HC := Lib.hid (HC.out.below hb)
        have VJ := Lib.hid (VJ.out.below hb)
        have VK := Lib.hid (VK.out.below hb)
        clear hb
        go_wp2_with fail
        refine (within_k a b an bn ac bc al bl p _ HA.out HB.out J4.out).mono ?_
        rintro e w4 ⟨rfl, hb⟩
        have HW := Lib.hid (HW.out.trans (hb.mono HW.out.size))
        have HO := Lib.hid (HO.out.below hb)
        have HA := Lib.hid (HA.out.below hb)
        have HB := Lib.hid (HB.out.below hb)
        have HC := Lib.hid (HC.out.below hb)
        have VJ := Lib.hid (VJ.out.below hb)
        have VK := Lib.hid (VK.out.below hb)
        clear hb
        go_wp2_with fail
        refine (rwithin_k a b an bn ac bc al bl p _ HA.out HB.out J4.out).mono ?_
        rintro e w5 ⟨rfl, hb⟩
        have HW := Lib.hid (HW.out.trans (hb.mono HW.out.size))
        have HO := Lib.hid (HO.out.below hb)
        have HA := Lib.hid (HA.out.below hb)
        have HB := Lib.hid (HB.out.below hb)
        have HC := Lib.hid (HC.out.below hb)
        have VJ := Lib.hid (VJ.out.below hb)
        have VK := Lib.hid (VK.out.below hb)
        clear hb
        go_wp2_with fail
        refine (check_k vjo vjn vjc j 0 _ VJ.out E4.out).mono ?_
        rintro e w6 ⟨rfl, hb⟩
        have HW := Lib.hid (HW.out.trans (hb.mono HW.out.size))
        have HO := Lib.hid (HO.out.below hb)
        have HA := Lib.hid (HA.out.below hb)
        have HB := Lib.hid (HB.out.below hb)
        have HC := Lib.hid (HC.out.below hb)
        have VJ := Lib.hid (VJ.out.below hb)
        have VK := Lib.hid (VK.out.below hb)
        clear hb
        go_wp2_with fail
        refine (join_k b a bn an bc ac bl al j _ HB.out HA.out (by have := LB.out; omega) (by have := LA.out; omega) E1.out).mono ?_
        rintro e w7 ⟨vlo, vln, vlc, rfl, hv, hb⟩
        have HW := Lib.hid (HW.out.trans (hb.mono HW.out.size))
        have HO := Lib.hid (HO.out.below hb)
        have HA := Lib.hid (HA.out.below hb)
        have HB := Lib.hid (HB.out.below hb)
        have HC := Lib.hid (HC.out.below hb)
        have VJ := Lib.hid (VJ.out.below hb)
        have VK := Lib.hid (VK.out.below hb)
        clear hb
        have VL := Lib.hid hv
        clear hv
        go_wp2_with fail
        refine (same_k vjo vlo vjn vln vjc vlc j j true _ VJ.out VL.out (decide_eq_true rfl)).mono ?_
        rintro e w8 ⟨rfl, hb⟩
        have HW := Lib.hid (HW.out.trans (hb.mono HW.out.size))
        have HO := Lib.hid (HO.out.below hb)
        have HA := Lib.hid (HA.out.below hb)
        have HB := Lib.hid (HB.out.below hb)
        have HC := Lib.hid (HC.out.below hb)
        have VJ := Lib.hid (VJ.out.below hb)
        have VK := Lib.hid (VK.out.below hb)
        have VL := Lib.hid (VL.out.below hb)
        clear hb
        go_wp2_with fail
        refine (join_k vjo c vjn cn vjc cc j cl q _ VJ.out HC.out (by have := VJ.out.1; have := N1.out; omega) (by have := LC.out; omega) J3.out).mono ?_
        rintro e w9 ⟨vmo, vmn, vmc, rfl, hv, hb⟩
        have HW := Lib.hid (HW.out.trans (hb.mono HW.out.size))
        have HO := Lib.hid (HO.out.below hb)
        have HA := Lib.hid (HA.out.below hb)
        have HB := Lib.hid (HB.out.below hb)
        have HC := Lib.hid (HC.out.below hb)
        have VJ := Lib.hid (VJ.out.below hb)
        have VK := Lib.hid (VK.out.below hb)
        have VL := Lib.hid (VL.out.below hb)
        clear hb
        have VM := Lib.hid hv
        clear hv
        go_wp2_with fail
        refine (join_k b c bn cn bc cc bl cl g _ HB.out HC.out (by have := LB.out; omega) (by have := LC.out; omega) J2.out).mono ?_
        rintro e w10 ⟨vno, vnn, vnc, rfl, hv, hb⟩
        have HW := Lib.hid (HW.out.trans (hb.mono HW.out.size))
        have HO := Lib.hid (HO.out.below hb)
        have HA := Lib.hid (HA.out.below hb)
        have HB := Lib.hid (HB.out.below hb)
        have HC := Lib.hid (HC.out.below hb)
        have VJ := Lib.hid (VJ.out.below hb)
        have VK := Lib.hid (VK.out.below hb)
        have VL := Lib.hid (VL.out.below hb)
        have VM := Lib.hid (VM.out.below hb)
        clear hb
        have VN := Lib.hid hv
        clear hv
        go_wp2_with fail
        refine (join_k a vno an vnn ac vnc al g q _ HA.out VN.out (by have := LA.out; omega) (by have := VN.out.1; have := N2.out; omega) E2.out).mono ?_
        rintro e w11 ⟨voo, von, voc, rfl, hv, hb⟩
        have HW := Lib.hid (HW.out.trans (hb.mono HW.out.size))
        have HO := Lib.hid (HO.out.below hb)
        have HA := Lib.hid (HA.out.below hb)
        have HB := Lib.hid (HB.out.below hb)
        have HC := Lib.hid (HC.out.below hb)
        have VJ := Lib.hid (VJ.out.below hb)
        have VK := Lib.hid (VK.out.below hb)
        have VL := Lib.hid (VL.out.below hb)
        have VM := Lib.hid (VM.out.below hb)
        have VN := Lib.hid (VN.out.below hb)
        clear hb
        have VO := Lib.hid hv
        clear hv
        go_wp2_with fail
        refine (same_k vmo voo vmn von vmc voc q q true _ VM.out VO.out (decide_eq_true rfl)).mono ?_
        rintro e w12 ⟨rfl, hb⟩
        have HW := Lib.hid (HW.out.trans (hb.mono HW.out.size))
        have HO := Lib.hid (HO.out.below hb)
        have HA := Lib.hid (HA.out.below hb)
        have HB := Lib.hid (HB.out.below hb)
        have HC := Lib.hid (HC.out.below hb)
        have VJ := Lib.hid (VJ.out.below hb)
        have VK := Lib.hid (VK.out.below hb)
        have VL := Lib.hid (VL.out.below hb)
        have VM := Lib.hid (VM.out.below hb)
        have VN := Lib.hid (VN.out.below hb)
        have VO := Lib.hid (VO.out.below hb)
        clear hb
        go_wp2_with fail
        refine (join_k vjo vjo vjn vjn vjc vjc j j j _ VJ.out VJ.out (by have := VJ.out.1; have := N1.out; omega) (by have := VJ.out.1; have := N1.out; omega) E3.out).mono ?_
        rintro e w13 ⟨vpo, vpn, vpc, rfl, hv, hb⟩
        have HW := Lib.hid (HW.out.trans (hb.mono HW.out.size))
        have HO := Lib.hid (HO.out.below hb)
        have HA := Lib.hid (HA.out.below hb)
        have HB := Lib.hid (HB.out.below hb)
        have HC := Lib.hid (HC.out.below hb)
        have VJ := Lib.hid (VJ.out.below hb)
        have VK := Lib.hid (VK.out.below hb)
        have VL := Lib.hid (VL.out.below hb)
        have VM := Lib.hid (VM.out.below hb)
        have VN := Lib.hid (VN.out.below hb)
        have VO := Lib.hid (VO.out.below hb)
        clear hb
        have VP := Lib.hid hv
        clear hv
        go_wp2_with fail
        refine (same_k vpo vjo vpn vjn vpc vjc j j true _ VP.out VJ.out (decide_eq_true rfl)).mono ?_
        rintro e w14 ⟨rfl, hb⟩
        have HW := Lib.hid (HW.out.trans (hb.mono HW.out.size))
        have HO := Lib.hid (HO.out.below hb)
        have HA := Lib.hid (HA.out.below hb)
        have HB := Lib.hid (HB.out.below hb)
        have HC := Lib.hid (HC.out.below hb)
        have VJ := Lib.hid (VJ.out.below hb)
        have VK := Lib.hid (VK.out.below hb)
        have VL := Lib.hid (VL.out.below hb)
        have VM := Lib.hid (VM.out.below hb)
        have VN := Lib.hid (VN.out.below hb)
        have VO := Lib.hid (VO.out.below hb)
        have VP := Lib.hid (VP.out.below hb)
        clear hb
        go_wp2_with fail
        refine (live_s _ HO.out).mono ?_
        rintro e w15 ⟨rfl, hb⟩
        have HW := Lib.hid (HW.out.trans (hb.mono HW.out.size))
        have HO := Lib.hid (HO.out.below hb)
        have HA := Lib.hid (HA.out.below hb)
        have HB := Lib.hid (HB.out.below hb)
        have HC := Lib.hid (HC.out.below hb)
        have VJ := Lib.hid (VJ.out.below hb)
        have VK := Lib.hid (VK.out.below hb)
        have VL := Lib.hid (VL.out.below hb)
        have VM := Lib.hid (VM.out.below hb)
        have VN := Lib.hid (VN.out.below hb)
        have VO := Lib.hid (VO.out.below hb)
        have VP := Lib.hid (VP.out.below hb)
        clear hb
        go_wp2_with fail
        go_ret
        exact ⟨rfl, HW.out⟩
      · go_enter Tryd.func9, Tryd.ntmps9
        go_wp2_with fail
        refine (few_k a an ac true _ (decide_eq_true (by omega))).mono ?_
        rintro e w' ⟨rfl, rfl⟩
        go_wp2_with fail
        refine (few_k b bn bc true _ (decide_eq_true (by omega))).mono ?_
        rintro e w' ⟨rfl, rfl⟩
        go_wp2_with fail
        refine (few_k c cn cc false _ (decide_eq_false (by omega))).mono ?_
        rintro e w' ⟨rfl, rfl⟩
        go_wp2_with fail
        refine (live_s _ HO.out).mono ?_
        rintro e w1 ⟨rfl, hb⟩
        have HW := Lib.hid (HW.out.trans (hb.mono HW.out.size))
        have HO := Lib.hid (HO.out.below hb)
        have HA := Lib.hid (HA.out.below hb)
        have HB := Lib.hid (HB.out.below hb)
        have HC := Lib.hid (HC.out.below hb)
        clear hb
        go_wp2_with fail
        go_ret
        exact ⟨rfl, HW.out⟩
    · go_enter Tryd.func9, Tryd.ntmps9
      go_wp2_with fail
      refine (few_k a an ac true _ (decide_eq_true (by omega))).mono ?_
      rintro e w' ⟨rfl, rfl⟩
      go_wp2_with fail
      refine (few_k b bn bc false _ (decide_eq_false (by omega))).mono ?_
      rintro e w' ⟨rfl, rfl⟩
      go_wp2_with fail
      refine (live_s _ HO.out).mono ?_
      rintro e w1 ⟨rfl, hb⟩
      have HW := Lib.hid (HW.out.trans (hb.mono HW.out.size))
      have HO := Lib.hid (HO.out.below hb)
      have HA := Lib.hid (HA.out.below hb)
      have HB := Lib.hid (HB.out.below hb)
      have HC := Lib.hid (HC.out.below hb)
      clear hb
      go_wp2_with fail
      go_ret
      exact ⟨rfl, HW.out⟩
  · go_enter Tryd.func9, Tryd.ntmps9
    go_wp2_with fail
    refine (few_k a an ac false _ (decide_eq_false (by omega))).mono ?_
    rintro e w' ⟨rfl, rfl⟩
    go_wp2_with fail
    refine (live_s _ HO.out).mono ?_
    rintro e w1 ⟨rfl, hb⟩
    have HW := Lib.hid (HW.out.trans (hb.mono HW.out.size))
    have HO := Lib.hid (HO.out.below hb)
    have HA := Lib.hid (HA.out.below hb)
    have HB := Lib.hid (HB.out.below hb)
    have HC := Lib.hid (HC.out.below hb)
    clear hb
    go_wp2_with fail
    go_ret
    exact ⟨rfl, HW.out⟩

theorem joins_types : ∀ t ∈ [39, 39, 39], Tryd.prog.readableRec t = true ∧ t < Tryd.prog.types.size := by
  have h : ([39, 39, 39].all fun t => Tryd.prog.readableRec t && decide (t < Tryd.prog.types.size)) = true := by kernel_rfl
  intro t ht
  have := List.all_eq_true.1 h t ht
  simpa using this

set_option maxRecDepth 100000 in
theorem joins_contract (H : Type) (enc : TypeId × Value → H) (W : World) (base : Nat) (args : Array Value) (ds gs : List (DataW H)) (before : List MemPlace)
    (hval : ∀ (j : Nat) t v, Tryd.f9.params[j]? = some t → args[j]? = some v → Value.okWide Tryd.prog W .any base t v)
    (hW : DataW.Whole enc Tryd.prog Tryd.f9.params.toList Rows.csnJoinsSpec.vars false W args.toList ds gs before) (hL : laidMetH Tryd.prog Rows.csnJoinsRow.laid W) (hsh : W.ShapedOpen Tryd.prog) :
    Calls Tryd.prog 9 args W fun e W' => ∃ v, e = .returned v ∧ Rows.csnJoinsSpec.post enc Tryd.prog Tryd.f9 false true false false W args v W' := by
  have hW' := hW
  obtain ⟨p, q, hA0, hV, rfl, hfz, hnd⟩ := hW
  have hA : DataW.TrodAll enc Tryd.prog W 0 (fun _ => true) true Tryd.f9.params.toList args.toList ds p := hA0
  obtain ⟨rfl, rfl⟩ := trodVars_none hV
  simp only [List.append_nil] at hW'
  have hlt : ∀ x ∈ p, x.block < W.heap.size := fun x hx => by simpa using hW'.lt x hx
  have fin : ∀ W', Below W.heap.size W W' → DataW.TrodAll enc Tryd.prog W' 0 (fun b => decide (b < W.heap.size)) true [39, 39, 39] args.toList ds p := fun W' hb => by
    rw [Tryd.params9] at hA
    exact trodAll_below hb _ _ _ _ joins_types hA hlt
  clear hA0
  rw [Tryd.params9] at hA hval
  obtain ⟨v0, vs0, d0, ds0, p0, q0, hargs, rfl, hp0, h0, r0⟩ := trodAll_cons hA
  obtain ⟨v1, vs1, d1, ds1, p1, q1, rfl, rfl, hp1, h1, r1⟩ := trodAll_cons r0
  obtain ⟨v2, vs2, d2, ds2, p2, q2, rfl, rfl, hp2, h2, r2⟩ := trodAll_cons r1
  obtain ⟨rfl, rfl, rfl⟩ := trodAll_nil r2
  obtain rfl : args = #[v0, v1, v2] := by cases args; simp_all
  obtain ⟨a, an, ac, al, rfl, hs0⟩ := open_cns (hval 0 39 v0 rfl rfl) h0
  obtain ⟨b, bn, bc, bl, rfl, hs1⟩ := open_cns (hval 1 39 v1 rfl rfl) h1
  obtain ⟨c, cn, cc, cl, rfl, hs2⟩ := open_cns (hval 2 39 v2 rfl rfl) h2
  refine (joins_s a an ac al b bn bc bl c cn cc cl W hs0 hs1 hs2 (wok_of hL hsh)).mono fun e W' ⟨he, hb⟩ => ?_
  subst he
  exact ⟨_, rfl, _, _, _, [], p, [], hW', trodAll_mk1 (shut_bool Tryd.underlying4 _), fin W' hb, rfl, hb.frame _, fun h => by cases h⟩

set_option maxRecDepth 100000 in
theorem joins_lifted (os : Os) (started : os.Started) (H : Type) (enc : TypeId × Value → H) (F : Stop.Interp) :
    ReturnsInHanded {} Tryd.checked os 9 .any ((OpenSpec.ofChange Rows.csnJoinsSpec).preRow enc Tryd.prog Tryd.f9 Rows.csnJoinsRow.domain false Rows.csnJoinsRow.laid) (((OpenSpec.ofChange Rows.csnJoinsSpec).at F).post enc Tryd.prog Tryd.f9 false true false false) := by
  refine returnsInHanded_of_row (C := Tryd.checked) (s := OpenSpec.ofChange Rows.csnJoinsSpec) own started (by kernel_rfl) Tryd.func9
    (witness_row (enc := enc) (C := Tryd.checked) false (World.laidAll Tryd.prog os Rows.csnJoinsRow.laid) #[.slice none 0 0, .slice none 0 0, .slice none 0 0] (World.laidAll_os _ _ _)
      (World.shaped_of_ZipB (by kernel_rfl) (by kernel_rfl)) (by kernel_rfl)
      (OpenSpec.preRow_of_cond 8 (x := ([.nil, .nil, .nil], [], [])) (by kernel_rfl) (by kernel_rfl) (fun k hk => by cases hk) (by kernel_rfl)
        (by rw [MakeChecks.laidMetH_plain _ _ _ (by kernel_rfl)]; exact laidMet_laidAll _ (by kernel_rfl) (by kernel_rfl)))) ?_
  intro W base args ds gs before hval hW _ _ _ hL hsh _
  exact joins_contract H enc W base args ds gs before hval hW hL hsh

set_option maxRecDepth 100000 in
theorem joins_said : Rows.CsnJoinsSaid :=
  OpenClaim.holds_of_cond 9 Tryd.f9 rfl rfl rfl rfl rfl rfl rfl ⟨rfl, rfl, rfl, rfl, rfl⟩ rfl rfl rfl rfl rfl (by kernel_rfl) Tryd.func9 (by kernel_rfl)
    (of_decide_eq_true (by kernel_rfl)) (by unfold Func.isWrapper; first | (rw [if_pos (by decide +kernel)]; kernel_rfl) | (rw [if_neg (by decide +kernel)]; exact ⟨rfl, rfl⟩))
    (fun os started H enc _ F => by rw [OpenClaim.pre_eq_preRow]; exact joins_lifted os started H enc F)

set_option maxRecDepth 100000 in
theorem joins_plain (f : FuncId) (fn : Func) (hf : Tryd.pinned.checked.prog.funcNamed "identity/identitylaw15.CsnJoins" = some f) (hfn : Tryd.pinned.checked.prog.funcs[f]? = some fn) :
    false = Tryd.pinned.checked.prog.looks [] ∧ ∀ (j : Nat) t, fn.params[j]? = some t → Tryd.pinned.checked.prog.wantsStandIn t = false := by
  obtain rfl : f = 9 := Option.some.inj ((show Tryd.prog.funcNamed "identity/identitylaw15.CsnJoins" = some 9 by kernel_rfl).symm.trans hf) |>.symm
  obtain rfl : fn = Tryd.f9 := (Option.some.inj (Tryd.func9.symm.trans hfn)).symm
  refine ⟨by kernel_rfl, fun j t ht => ?_⟩
  rw [Tryd.params9] at ht
  have hm : t ∈ [39, 39, 39] := by simpa using Array.mem_of_getElem? ht
  have hall : ([39, 39, 39].all fun u => !Tryd.prog.wantsStandIn u) = true := by kernel_rfl
  exact (show Tryd.prog.wantsStandIn t = false by simpa using List.all_eq_true.1 hall t hm)

/-- THE CARD -/
theorem joins_card : Rows.CsnJoinsCardSaid :=
  Claim7.holds_tied_plain_at .later [] _ _ _ _ joins_said (fun _ h => by cases h) (by kernel_rfl) (fun _ h => by cases h) csnJoins_row_tie rfl ⟨rfl, rfl⟩ (by kernel_rfl) rfl joins_plain (by kernel_rfl)
end Go.Proofs.YtcnhkoijphfibaaDoor
