/-
  Proved: identitylaw16.ChangeTexts returns true for every input (the tied card). No condition beyond the row's own.
-/
import Derived.Test.YtbkignlbcneddaaGreatDoorX20
import Derived.Test.YtbkignlbcneddaaGreatDoorX26
import Derived.Test.YtbkignlbcneddaaGreatDoorX28
set_option linter.unusedVariables false
set_option linter.unusedSimpArgs false
set_option linter.unnecessarySimpa false

section
/-
  Proved: identitylaw16.ChangeTexts returns true for every input (the tied card). No condition beyond the row's own.
-/
set_option linter.unusedVariables false
set_option linter.unusedSimpArgs false
set_option linter.unnecessarySimpa false
namespace Go.Proofs.YtbkignlbcneddaaGreatDoor
open Go.ChangeShapes Go.WideShapes Go.ChangeAt Go.RowKit Go.PlainAid
open Go.ChangeMaps (open_string shut_string)
open Csn (Cn cnV cnB CnsAt KbC kbc_new box_below box_lt TzOk own witness_row trodAll_below max_ok laidOut open_cns open_cn)

theorem text_k (ao : Option Addr) (n cap : Nat) (l : List Chg) (x : ByteArray) (z : Int) (w : World) (h : ChsAt w ao n cap l) (hz : ∀ g ∈ l, SmG g) (ho : COk w) (hx : txV l = x) (he : txE l = z) :
    Calls Tryz.prog 19 #[.slice ao n cap] w fun e w' => e = .returned (.tuple #[.string x, .int .i64 z]) ∧ Below w.heap.size w w' := by subst hx he; exact chtext_s ao n cap l w h hz ho
theorem rtext_k (ao : Option Addr) (n cap : Nat) (l : List Chg) (x : ByteArray) (z : Int) (w : World) (h : ChsAt w ao n cap l) (hz : ∀ g ∈ l, SmG g) (ho : MaxOk w) (hx : txV l = x) (he : txE l = z) :
    Calls Tryz.prog 20 #[.slice ao n cap] w fun e w' => e = .returned (.tuple #[.string x, .int .i64 z]) ∧ Below w.heap.size w w' := by subst hx he; exact rchtext_s ao n cap l w h hz ho
theorem rd_k (s : ByteArray) (r : List Chg) (a b : Int) (q : Nat) (w : World) (hs : s.size ≤ 1000000) (ho : COk w) (hr : (rdG s).1 = r) (ha : (rdG s).2.1 = a) (hb : (rdG s).2.2 = b) (hq : r.length = q) :
    Calls Tryz.prog 21 #[.string s] w fun e w' => ∃ xo xc, e = .returned (.tuple #[.slice xo q xc, .int .i64 a, .int .i64 b]) ∧ ChsAt w' xo q xc r ∧ Below w.heap.size w w' := by
  subst hr ha hb hq
  exact (chread_s s w hs ho).mono fun e w' ⟨v, he, hv, hb⟩ => by
    obtain ⟨xo, xc, rfl, hx⟩ := chs_of_owns hv
    exact ⟨xo, xc, he, hx, hb⟩
theorem rrd_k (s : ByteArray) (r : List Chg) (a b : Int) (q : Nat) (w : World) (hs : s.size ≤ 1000000) (ho : COk w) (hr : (rdG s).1 = r) (ha : (rdG s).2.1 = a) (hb : (rdG s).2.2 = b) (hq : r.length = q) :
    Calls Tryz.prog 22 #[.string s] w fun e w' => ∃ xo xc, e = .returned (.tuple #[.slice xo q xc, .int .i64 a, .int .i64 b]) ∧ ChsAt w' xo q xc r ∧ Below w.heap.size w w' := by
  subst hr ha hb hq
  exact (rchread_s s w hs ho).mono fun e w' ⟨v, he, hv, hb⟩ => by
    obtain ⟨xo, xc, rfl, hx⟩ := chs_of_owns hv
    exact ⟨xo, xc, he, hx, hb⟩
set_option maxRecDepth 100000 in
set_option maxHeartbeats 16000000 in
theorem chtexts_s (l : Option Addr) (ln lc : Nat) (ll : List Chg) (s : ByteArray) (w : World) (hl : ChsAt w l ln lc ll) (il : ∀ g ∈ ll, InG g) (ho : COk w) :
    Calls Tryz.prog 4 #[.slice l ln lc, .string s] w fun e w' => e = .returned (.bool true) ∧ Below w.heap.size w w' := by
  have HW := Lib.hid (Below.refl w.heap.size w)
  have HO := Lib.hid ho
  have HL := Lib.hid hl
  have NL := Lib.hid hl.1
  have IL := Lib.hid il
  clear ho hl il
  go_enter Tryz.func4, Tryz.ntmps4
  go_wp2_with fail
  refine (light_s l ln lc ll _ HL.out).mono ?_
  rintro e w' ⟨⟨r, rfl, hl⟩, rfl⟩
  cases r
  · clear hl
    go_wp2_with fail
    refine (awake_s _ HO.out).mono ?_
    rintro e w1 ⟨rfl, hb⟩
    have HW := Lib.hid (HW.out.trans (hb.mono HW.out.size))
    have HO := Lib.hid (HO.out.step hb)
    have HL := Lib.hid (HL.out.below hb)
    clear hb
    go_wp2_with fail
    go_ret
    exact ⟨rfl, HW.out⟩
  · have LL := Lib.hid (hl rfl)
    clear hl
    by_cases h6 : s.size ≤ 6000
    · have d1 : ¬ (s.size : Int) > 6000 := by omega
      have d2 : decide ((6000 : Int) < (s.size : Int)) = false := decide_eq_false (by omega)
      go_wp2_with fail
      obtain ⟨x, hx⟩ : ∃ r, txV ll = r := ⟨_, rfl⟩
      obtain ⟨z, hz⟩ : ∃ r, txE ll = r := ⟨_, rfl⟩
      obtain ⟨r, hr⟩ : ∃ r, (rdG s).1 = r := ⟨_, rfl⟩
      obtain ⟨p, hp⟩ : ∃ r, (rdG s).2.1 = r := ⟨_, rfl⟩
      obtain ⟨e, he⟩ : ∃ r, (rdG s).2.2 = r := ⟨_, rfl⟩
      have HX := Lib.hid hx
      have HZ := Lib.hid hz
      have HR := Lib.hid hr
      have HP := Lib.hid hp
      have HE := Lib.hid he
      have HS : Hid (s.size ≤ 1000000) := Lib.hid (by omega)
      have q1 : (z == z) = true := beq_self_eq_true _
      have q2 : (p == p) = true := beq_self_eq_true _
      have q3 : (e == e) = true := beq_self_eq_true _
      clear hx hz hr hp he
      refine (text_k l ln lc ll x z _ HL.out LL.out.small HO.out HX.out HZ.out).mono ?_
      rintro e w1 ⟨rfl, hb⟩
      have HW := Lib.hid (HW.out.trans (hb.mono HW.out.size))
      have HO := Lib.hid (HO.out.step hb)
      have HL := Lib.hid (HL.out.below hb)
      clear hb
      go_wp2_with fail
      refine (rtext_k l ln lc ll x z _ HL.out LL.out.small HO.out.mx HX.out HZ.out).mono ?_
      rintro e w2 ⟨rfl, hb⟩
      have HW := Lib.hid (HW.out.trans (hb.mono HW.out.size))
      have HO := Lib.hid (HO.out.step hb)
      have HL := Lib.hid (HL.out.below hb)
      clear hb
      go_wp2_with fail
      refine (rd_k s r p e r.length _ HS.out HO.out HR.out HP.out HE.out rfl).mono ?_
      rintro e w3 ⟨xo, xc, rfl, hx, hb⟩
      have HW := Lib.hid (HW.out.trans (hb.mono HW.out.size))
      have HO := Lib.hid (HO.out.step hb)
      have HL := Lib.hid (HL.out.below hb)
      clear hb
      have HU := Lib.hid hx
      clear hx
      go_wp2_with fail
      refine (rrd_k s r p e r.length _ HS.out HO.out HR.out HP.out HE.out rfl).mono ?_
      rintro e w4 ⟨yo, yc, rfl, hy, hb⟩
      have HW := Lib.hid (HW.out.trans (hb.mono HW.out.size))
      have HO := Lib.hid (HO.out.step hb)
      have HL := Lib.hid (HL.out.below hb)
      have HU := Lib.hid (HU.out.below hb)
      clear hb
      have HV := Lib.hid hy
      clear hy
      go_wp2_with fail
      refine (same_k xo yo r.length r.length xc yc r r true _ HU.out HV.out (decide_eq_true rfl)).mono ?_
      rintro e w5 ⟨rfl, hb⟩
      have HW := Lib.hid (HW.out.trans (hb.mono HW.out.size))
      have HO := Lib.hid (HO.out.step hb)
      have HL := Lib.hid (HL.out.below hb)
      have HU := Lib.hid (HU.out.below hb)
      have HV := Lib.hid (HV.out.below hb)
      clear hb
      go_wp2_with fail
      refine (awake_s _ HO.out).mono ?_
      rintro e w6 ⟨rfl, hb⟩
      have HW := Lib.hid (HW.out.trans (hb.mono HW.out.size))
      have HO := Lib.hid (HO.out.step hb)
      have HL := Lib.hid (HL.out.below hb)
      have HU := Lib.hid (HU.out.below hb)
      have HV := Lib.hid (HV.out.below hb)
      clear hb
      go_wp2_with fail
      go_ret
      exact ⟨rfl, HW.out⟩
    · have d1 : (s.size : Int) > 6000 := by omega
      have d2 : decide ((6000 : Int) < (s.size : Int)) = true := decide_eq_true (by omega)
      go_wp2_with fail
      refine (awake_s _ HO.out).mono ?_
      rintro e w1 ⟨rfl, hb⟩
      have HW := Lib.hid (HW.out.trans (hb.mono HW.out.size))
      have HO := Lib.hid (HO.out.step hb)
      have HL := Lib.hid (HL.out.below hb)
      clear hb
      go_wp2_with fail
      go_ret
      exact ⟨rfl, HW.out⟩

theorem chtexts_types : ∀ t ∈ [28, 9], Tryz.prog.readableRec t = true ∧ t < Tryz.prog.types.size := by
  have h : ([28, 9].all fun t => Tryz.prog.readableRec t && decide (t < Tryz.prog.types.size)) = true := by kernel_rfl
  intro t ht
  have := List.all_eq_true.1 h t ht
  simpa using this

set_option maxRecDepth 100000 in
theorem chtexts_contract (H : Type) (enc : TypeId × Value → H) (W : World) (base : Nat) (args : Array Value) (ds gs : List (DataW H)) (before : List MemPlace)
    (hval : ∀ (j : Nat) t v, Tryz.f4.params[j]? = some t → args[j]? = some v → Value.okWide Tryz.prog W .any base t v)
    (hW : DataW.Whole enc Tryz.prog Tryz.f4.params.toList Rows.changeTextsSpec.vars false W args.toList ds gs before) (hL : laidMetH Tryz.prog Rows.changeTextsRow.laid W) (hsh : W.ShapedOpen Tryz.prog) :
    Calls Tryz.prog 4 args W fun e W' => ∃ v, e = .returned v ∧ Rows.changeTextsSpec.post enc Tryz.prog Tryz.f4 false true false false W args v W' := by
  have hW' := hW
  obtain ⟨p, q, hA0, hV, rfl, hfz, hnd⟩ := hW
  have hA : DataW.TrodAll enc Tryz.prog W 0 (fun _ => true) true Tryz.f4.params.toList args.toList ds p := hA0
  obtain ⟨rfl, rfl⟩ := trodVars_none hV
  simp only [List.append_nil] at hW'
  have hlt : ∀ x ∈ p, x.block < W.heap.size := fun x hx => by simpa using hW'.lt x hx
  have fin : ∀ W', Below W.heap.size W W' → DataW.TrodAll enc Tryz.prog W' 0 (fun b => decide (b < W.heap.size)) true [28, 9] args.toList ds p := fun W' hb => by
    rw [Tryz.params4] at hA
    exact trodAll_below hb _ _ _ _ chtexts_types hA hlt
  clear hA0
  rw [Tryz.params4] at hA hval
  obtain ⟨v0, vs0, d0, ds0, p0, q0, hargs, rfl, hp0, h0, r0⟩ := trodAll_cons hA
  obtain ⟨v1, vs1, d1, ds1, p1, q1, rfl, rfl, hp1, h1, r1⟩ := trodAll_cons r0
  obtain ⟨rfl, rfl, rfl⟩ := trodAll_nil r1
  obtain rfl : args = #[v0, v1] := by cases args; simp_all
  obtain ⟨l, ln, lc, ll, rfl, hs0, hi0⟩ := open_chs (hval 0 28 v0 rfl rfl) h0
  obtain ⟨s, rfl, rfl, rfl, hs1⟩ := open_string Tryz.underlying9 (hval 1 9 v1 rfl rfl) h1
  refine (chtexts_s l ln lc ll s W hs0 hi0 (cok_of hL hsh)).mono fun e W' ⟨he, hb⟩ => ?_
  subst he
  exact ⟨_, rfl, _, _, _, [], p, [], hW', trodAll_mk1 (shut_bool Tryz.underlying4 _), fin W' hb, rfl, hb.frame _, fun h => by cases h⟩

set_option maxRecDepth 100000 in
theorem chtexts_lifted (os : Os) (started : os.Started) (H : Type) (enc : TypeId × Value → H) (F : Stop.Interp) :
    ReturnsInHanded {} Tryz.checked os 4 .any ((OpenSpec.ofChange Rows.changeTextsSpec).preRow enc Tryz.prog Tryz.f4 Rows.changeTextsRow.domain false Rows.changeTextsRow.laid) (((OpenSpec.ofChange Rows.changeTextsSpec).at F).post enc Tryz.prog Tryz.f4 false true false false) := by
  refine returnsInHanded_of_row (C := Tryz.checked) (s := OpenSpec.ofChange Rows.changeTextsSpec) own started (by kernel_rfl) Tryz.func4
    (witness_row (enc := enc) (C := Tryz.checked) false (World.laidAll Tryz.prog os Rows.changeTextsRow.laid) #[.slice none 0 0, .string ⟨#[]⟩] (World.laidAll_os _ _ _)
      (World.shaped_of_ZipB (by kernel_rfl) (by kernel_rfl)) (by kernel_rfl)
      (OpenSpec.preRow_of_cond 8 (x := ([.nil, .lit (.string [])], [], [])) (by kernel_rfl) (by kernel_rfl) (fun k hk => by cases hk) (by kernel_rfl)
        (by rw [MakeChecks.laidMetH_plain _ _ _ (by kernel_rfl)]; exact laidMet_laidAll _ (by kernel_rfl) (by kernel_rfl)))) ?_
  intro W base args ds gs before hval hW _ _ _ hL hsh _
  exact chtexts_contract H enc W base args ds gs before hval hW hL hsh

set_option maxRecDepth 100000 in
theorem chtexts_said : Rows.ChangeTextsSaid :=
  OpenClaim.holds_of_cond 4 Tryz.f4 rfl rfl rfl rfl rfl rfl rfl ⟨rfl, rfl, rfl, rfl, rfl⟩ rfl rfl rfl rfl rfl (by kernel_rfl) Tryz.func4 (by kernel_rfl)
    (of_decide_eq_true (by kernel_rfl)) (by unfold Func.isWrapper; first | (rw [if_pos (by decide +kernel)]; kernel_rfl) | (rw [if_neg (by decide +kernel)]; exact ⟨rfl, rfl⟩))
    (fun os started H enc _ F => by rw [OpenClaim.pre_eq_preRow]; exact chtexts_lifted os started H enc F)

set_option maxRecDepth 100000 in
theorem chtexts_plain (f : FuncId) (fn : Func) (hf : Tryz.pinned.checked.prog.funcNamed "identity/identitylaw16.ChangeTexts" = some f) (hfn : Tryz.pinned.checked.prog.funcs[f]? = some fn) :
    false = Tryz.pinned.checked.prog.looks [] ∧ ∀ (j : Nat) t, fn.params[j]? = some t → Tryz.pinned.checked.prog.wantsStandIn t = false := by
  obtain rfl : f = 4 := Option.some.inj ((show Tryz.prog.funcNamed "identity/identitylaw16.ChangeTexts" = some 4 by kernel_rfl).symm.trans hf) |>.symm
  obtain rfl : fn = Tryz.f4 := (Option.some.inj (Tryz.func4.symm.trans hfn)).symm
  refine ⟨by kernel_rfl, fun j t ht => ?_⟩
  rw [Tryz.params4] at ht
  have hm : t ∈ [28, 9] := by simpa using Array.mem_of_getElem? ht
  have hall : ([28, 9].all fun u => !Tryz.prog.wantsStandIn u) = true := by kernel_rfl
  exact (show Tryz.prog.wantsStandIn t = false by simpa using List.all_eq_true.1 hall t hm)

/-- THE CARD -/
theorem chtexts_card : Rows.ChangeTextsCardSaid :=
  Claim7.holds_tied_plain_at .later [] _ _ _ _ chtexts_said (fun _ h => by cases h) (by kernel_rfl) (fun _ h => by cases h) changeTexts_row_tie rfl ⟨rfl, rfl⟩ (by kernel_rfl) rfl chtexts_plain (by kernel_rfl)
end Go.Proofs.YtbkignlbcneddaaGreatDoor
end
