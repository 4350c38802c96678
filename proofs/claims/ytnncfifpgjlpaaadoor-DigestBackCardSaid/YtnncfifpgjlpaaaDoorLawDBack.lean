/-
  Proved: identitylaw03.DigestBack returns true for every number of 64 bits, three strings and two bytes (the tied card). No condition beyond the row's own.
-/
import Derived.Test.YtnncfifpgjlpaaaDoorDigLaws
import Derived.Deep.DeepCutAuto
import Derived.Deep.RegionWith
set_option linter.unusedVariables false
set_option linter.unusedSimpArgs false
set_option linter.unnecessarySimpa false
namespace Go.Proofs.YtnncfifpgjlpaaaDoor
open Go.ChangeShapes Go.WideShapes Go.ChangeAt Go.RowKit Go.PlainAid
open Go.ChangeMaps (open_string shut_string)

set_option maxRecDepth 100000 in
set_option maxHeartbeats 4000000 in
theorem back_s (n : Int) (s before after : ByteArray) (a b : Int) (w : World) (hn : (Lit.int .u64 n).wf = true) (ha : (Lit.int .u8 a).wf = true) (hb : (Lit.int .u8 b).wf = true) (ho : PowOk w) :
    Calls Tryd.prog 8 #[.int .u64 n, .string s, .string before, .string after, .int .u8 a, .int .u8 b] w fun e w' => e = .returned (.bool true) ∧ Below w.heap.size w w' := by
  have B0 := Below.refl w.heap.size w
  have O0 := ho
  obtain ⟨n, rfl, hm⟩ := u64_nat hn
  obtain ⟨a, rfl⟩ := u8_byte ha
  obtain ⟨b, rfl⟩ := u8_byte hb
  clear hn ha hb
  by_cases h1 : 300 < s.size
  · skip
    go_enter Tryd.func8, Tryd.ntmps8
    go_wp2_with fail
    refine (awake_s _ O0).mono ?_
    rintro e w1 ⟨rfl, hb⟩
    have B1 := B0.trans (hb.mono B0.size)
    have O1 := O0.below hb
    clear hb
    go_wp2_with fail
    go_ret
    exact ⟨rfl, B1⟩
  by_cases h2 : 300 < before.size
  · skip
    go_enter Tryd.func8, Tryd.ntmps8
    go_wp2_with fail
    refine (awake_s _ O0).mono ?_
    rintro e w1 ⟨rfl, hb⟩
    have B1 := B0.trans (hb.mono B0.size)
    have O1 := O0.below hb
    clear hb
    go_wp2_with fail
    go_ret
    exact ⟨rfl, B1⟩
  by_cases h3 : 300 < after.size
  · skip
    go_enter Tryd.func8, Tryd.ntmps8
    go_wp2_with fail
    refine (awake_s _ O0).mono ?_
    rintro e w1 ⟨rfl, hb⟩
    have B1 := B0.trans (hb.mono B0.size)
    have O1 := O0.below hb
    clear hb
    go_wp2_with fail
    go_ret
    exact ⟨rfl, B1⟩
  obtain ⟨r, HR⟩ : ∃ r : ByteArray, Hid ((⟨(hexN n).toArray⟩ : ByteArray) = r) := ⟨_, Lib.hid rfl⟩
  have HZ := Lib.hid (show r.size = 16 by rw [← HR.out, Lib.size_mk]; exact hexK_length 16 n)
  have HRD := Lib.hid (show rdV r.data.toList = n ∧ rdE r.data.toList = 0 by rw [← HR.out]; exact rdV_of (rdO_hexN n hm))
  obtain ⟨k, HK⟩ : ∃ x, Hid (rdV s.data.toList = x) := ⟨_, Lib.hid rfl⟩
  obtain ⟨e0, HE⟩ : ∃ x, Hid (rdE s.data.toList = x) := ⟨_, Lib.hid rfl⟩
  obtain ⟨p, HP, hp, zp⟩ : ∃ p : ByteArray, Hid (p = before ++ ⟨#[a]⟩) ∧ before ++ ⟨#[a]⟩ = p ∧ p.size ≤ 301 := ⟨_, Lib.hid rfl, rfl, by rw [ByteArray.size_append]; have : (⟨#[a]⟩ : ByteArray).size = 1 := rfl; omega⟩
  obtain ⟨q, HQ, hq, zq⟩ : ∃ p : ByteArray, Hid (p = before ++ ⟨#[b]⟩) ∧ before ++ ⟨#[b]⟩ = p ∧ p.size ≤ 301 := ⟨_, Lib.hid rfl, rfl, by rw [ByteArray.size_append]; have : (⟨#[b]⟩ : ByteArray).size = 1 := rfl; omega⟩
  obtain ⟨x, HX⟩ : ∃ x, Hid (sumN (p ++ after).data.toList = x) := ⟨_, Lib.hid rfl⟩
  obtain ⟨y, HY⟩ : ∃ x, Hid (sumN (q ++ after).data.toList = x) := ⟨_, Lib.hid rfl⟩
  obtain ⟨u, HU, hu, zu⟩ : ∃ u : ByteArray, Hid (sumN u.data.toList = x) ∧ p ++ after = u ∧ u.size ≤ 1000000 := ⟨_, HX, rfl, by rw [ByteArray.size_append]; omega⟩
  obtain ⟨v, HV, hv, zv⟩ : ∃ u : ByteArray, Hid (sumN u.data.toList = y) ∧ q ++ after = u ∧ u.size ≤ 1000000 := ⟨_, HY, rfl, by rw [ByteArray.size_append]; omega⟩
  have HXY : Hid ((x = y) ↔ (a = b)) := Lib.hid (by
    have e : ∀ c : UInt8, ((before ++ ⟨#[c]⟩) ++ after).data.toList = before.data.toList ++ [c] ++ after.data.toList := fun c => by simp [ByteArray.data_append]
    rw [← HX.out, ← HY.out, HP.out, HQ.out, e a, e b]
    exact ⟨fun h => sumN_byte _ _ _ _ h, fun h => by rw [h]⟩)
  have s1 : (⟨#[a]⟩ : ByteArray).size = 1 := rfl
  have s2 : (⟨#[b]⟩ : ByteArray).size = 1 := rfl
  have y1 : ¬ (9223372036854775807 < before.size + 1) := by omega
  have y2 : ¬ (9223372036854775807 < p.size + after.size) := by omega
  have y3 : ¬ (9223372036854775807 < q.size + after.size) := by omega
  go_enter Tryd.func8, Tryd.ntmps8
  go_wp2_with fail
  refine (hex_k n r _ hm HR.out).mono ?_
  rintro e w1 ⟨rfl, hb⟩
  have B1 := B0.trans (hb.mono B0.size)
  have O1 := O0.below hb
  clear hb
  go_wp2_with fail
  refine (readHex_k r n 0 _ (by rw [HZ.out]; decide) HRD.out).mono ?_
  rintro e w' ⟨rfl, rfl⟩
  go_wp2_with fail
  refine (readHex_k s k e0 _ (by omega) ⟨HK.out, HE.out⟩).mono ?_
  rintro e w' ⟨rfl, rfl⟩
  go_wp2_with fail
  have hconv : ∀ (W : World) (g : Nat) (c : UInt8), W.cell? ⟨g, 0, none⟩ = some (.int .u8 (c.toNat : Int)) → (convert 43 9 (.slice (some ⟨g, 0, none⟩) 1 1)).run Tryd.prog W = .ok (.string ⟨#[c]⟩) W := fun W g c hc =>
    run_convert_bytes_back (P := Tryd.prog) W 43 9 5 ⟨g, 0, none⟩ 1 [c] Tryd.underlying43 Tryd.underlying5 Tryd.underlying9 (fun j hj => by
      have : j = 0 := by simpa using hj
      subst this
      exact hc)
  have two : ∀ o1 o2 : Obj, Below w1.heap.size w1 ((w1.alloc o1).alloc o2).drew := fun o1 o2 => (((Below.refl _ _).alloc (Nat.le_refl _) o1).alloc (by show w1.heap.size ≤ (w1.heap.push o1).size; simp) o2).drew
  have HAB := Lib.hid (show Below w.heap.size w ((w1.alloc (.cells #[.int .u8 (a.toNat : Int)] 5)).alloc (.cells #[.int .u8 (b.toNat : Int)] 5)).drew ∧ PowOk ((w1.alloc (.cells #[.int .u8 (a.toNat : Int)] 5)).alloc (.cells #[.int .u8 (b.toNat : Int)] 5)).drew from ⟨B1.trans ((two _ _).mono B1.size), O1.below (two _ _)⟩)
  have HBA := Lib.hid (show Below w.heap.size w ((w1.alloc (.cells #[.int .u8 (b.toNat : Int)] 5)).alloc (.cells #[.int .u8 (a.toNat : Int)] 5)).drew ∧ PowOk ((w1.alloc (.cells #[.int .u8 (b.toNat : Int)] 5)).alloc (.cells #[.int .u8 (a.toNat : Int)] 5)).drew from ⟨B1.trans ((two _ _).mono B1.size), O1.below (two _ _)⟩)
  clear two
  go_cut [17, 18] (fun uu vv wx => uu = .int .u64 x ∧ vv = .int .u64 y ∧ Hid (Below w.heap.size w wx ∧ PowOk wx))
  case first =>
    have c1 := hconv (w1.alloc (.cells #[.int .u8 (a.toNat : Int)] 5)).drew w1.heap.size a (by go_simp)
    have c2 := hconv ((w1.alloc (.cells #[.int .u8 (a.toNat : Int)] 5)).alloc (.cells #[.int .u8 (b.toNat : Int)] 5)).drew w1.heap.size a (by go_simp)
    have c3 := hconv ((w1.alloc (.cells #[.int .u8 (a.toNat : Int)] 5)).alloc (.cells #[.int .u8 (b.toNat : Int)] 5)).drew (w1.heap.size + 1) b (by go_simp)
    have c4 := hconv (w1.alloc (.cells #[.int .u8 (b.toNat : Int)] 5)).drew w1.heap.size b (by go_simp)
    have c5 := hconv ((w1.alloc (.cells #[.int .u8 (b.toNat : Int)] 5)).alloc (.cells #[.int .u8 (a.toNat : Int)] 5)).drew w1.heap.size b (by go_simp)
    have c6 := hconv ((w1.alloc (.cells #[.int .u8 (b.toNat : Int)] 5)).alloc (.cells #[.int .u8 (a.toNat : Int)] 5)).drew (w1.heap.size + 1) a (by go_simp)
    clear hconv
    go_region_with (go_at_call 12; first | (with_reducible refine (sum_k u x _ (by omega) HU.out).mono ?_; rintro e w' ⟨rfl, rfl⟩) | (with_reducible refine (sum_k v y _ (by omega) HV.out).mono ?_; rintro e w' ⟨rfl, rfl⟩))
    all_goals (go_wp2_with fail; go_meet; first | exact ⟨rfl, rfl, HAB⟩ | exact ⟨rfl, rfl, HBA⟩)
  case rest =>
    obtain ⟨rfl, rfl, HWC⟩ := hcut
    obtain ⟨B1, O1⟩ := HWC.out
    have q1 : ((n : Int) == (n : Int)) = true := beq_self_eq_true _
    have hrest : ∃ t : Bool, ((x : Int) == (y : Int)) = t ∧ ((a.toNat : Int) == (b.toNat : Int)) = t := by
      by_cases h : a = b
      · exact ⟨true, by rw [HXY.out.2 h]; exact beq_self_eq_true _, by rw [h]; exact beq_self_eq_true _⟩
      · refine ⟨false, ?_, ?_⟩
        · rw [beq_eq_false_iff_ne]; intro e; exact h (HXY.out.1 (by exact_mod_cast e))
        · rw [beq_eq_false_iff_ne]; intro e; exact h (UInt8.toNat_inj.1 (by exact_mod_cast e))
    obtain ⟨t, qx, qa⟩ := hrest
    have qt : (t == t) = true := beq_self_eq_true _
    cases ho : rdO s.data.toList with
    | some k' =>
      obtain ⟨k1, k2⟩ := rdV_of ho
      obtain ⟨k3, k4⟩ := hexN_rdO ho
      have hk : k = k' := by rw [← HK.out, k1]
      have he : e0 = 0 := by rw [← HE.out, k2]
      subst hk
      have HH := Lib.hid (show (⟨(hexN k).toArray⟩ : ByteArray) = s by rw [k3])
      clear HE HK k1 k2 k3 ho
      subst he
      have qs : (s.toList == s.toList) = true := beq_self_eq_true _
      go_wp2_with fail
      refine (hex_k k s _ k4 HH.out).mono ?_
      rintro e w2 ⟨rfl, hb⟩
      have B2 := B1.trans (hb.mono B1.size)
      have O2 := O1.below hb
      clear hb
      go_wp2_with fail
      refine (awake_s _ O2).mono ?_
      rintro e w3 ⟨rfl, hb⟩
      have B3 := B2.trans (hb.mono B2.size)
      clear hb
      go_wp2_with fail
      go_ret
      exact ⟨rfl, B3⟩
    | none =>
      obtain ⟨k1, k2⟩ := rdV_no ho
      have hk : k = 0 := by rw [← HK.out, k1]
      have he : e0 = 4 := by rw [← HE.out, k2]
      clear HE HK k1 k2 ho
      subst hk he
      go_wp2_with fail
      refine (awake_s _ O1).mono ?_
      rintro e w3 ⟨rfl, hb⟩
      have B3 := B1.trans (hb.mono B1.size)
      clear hb
      go_wp2_with fail
      go_ret
      exact ⟨rfl, B3⟩

theorem back_types : ∀ t ∈ [22, 9, 9, 9, 5, 5], Tryd.prog.readableRec t = true ∧ t < Tryd.prog.types.size := by
  have h : ([22, 9, 9, 9, 5, 5].all fun t => Tryd.prog.readableRec t && decide (t < Tryd.prog.types.size)) = true := by kernel_rfl
  intro t ht
  have := List.all_eq_true.1 h t ht
  simpa using this

set_option maxRecDepth 100000 in
theorem back_contract (H : Type) (enc : TypeId × Value → H) (W : World) (base : Nat) (args : Array Value) (ds gs : List (DataW H)) (before : List MemPlace)
    (hval : ∀ (j : Nat) t v, Tryd.f8.params[j]? = some t → args[j]? = some v → Value.okWide Tryd.prog W .any base t v)
    (hW : DataW.Whole enc Tryd.prog Tryd.f8.params.toList Rows.digestBackSpec.vars false W args.toList ds gs before) (hL : laidMetH Tryd.prog Rows.digestBackRow.laid W) (hsh : W.ShapedOpen Tryd.prog) :
    Calls Tryd.prog 8 args W fun e W' => ∃ v, e = .returned v ∧ Rows.digestBackSpec.post enc Tryd.prog Tryd.f8 false true false false W args v W' := by
  have hW' := hW
  obtain ⟨p, q, hA0, hV, rfl, hfz, hnd⟩ := hW
  have hA : DataW.TrodAll enc Tryd.prog W 0 (fun _ => true) true Tryd.f8.params.toList args.toList ds p := hA0
  obtain ⟨rfl, rfl⟩ := trodVars_none hV
  simp only [List.append_nil] at hW'
  have hlt : ∀ x ∈ p, x.block < W.heap.size := fun x hx => by simpa using hW'.lt x hx
  have fin : ∀ W', Below W.heap.size W W' → DataW.TrodAll enc Tryd.prog W' 0 (fun b => decide (b < W.heap.size)) true [22, 9, 9, 9, 5, 5] args.toList ds p := fun W' hb => by
    rw [Tryd.params8] at hA
    exact trodAll_below hb _ _ _ _ back_types hA hlt
  clear hA0
  rw [Tryd.params8] at hA hval
  obtain ⟨v0, vs0, d0, ds0, p0, q0, hargs, rfl, hp0, h0, r0⟩ := trodAll_cons hA
  obtain ⟨v1, vs1, d1, ds1, p1, q1, rfl, rfl, hp1, h1, r1⟩ := trodAll_cons r0
  obtain ⟨v2, vs2, d2, ds2, p2, q2, rfl, rfl, hp2, h2, r2⟩ := trodAll_cons r1
  obtain ⟨v3, vs3, d3, ds3, p3, q3, rfl, rfl, hp3, h3, r3⟩ := trodAll_cons r2
  obtain ⟨v4, vs4, d4, ds4, p4, q4, rfl, rfl, hp4, h4, r4⟩ := trodAll_cons r3
  obtain ⟨v5, vs5, d5, ds5, p5, q5, rfl, rfl, hp5, h5, r5⟩ := trodAll_cons r4
  obtain ⟨rfl, rfl, rfl⟩ := trodAll_nil r5
  obtain rfl : args = #[v0, v1, v2, v3, v4, v5] := by cases args; simp_all
  obtain ⟨n, rfl, rfl, rfl, hs0⟩ := open_int Tryd.underlying22 (hval 0 22 v0 rfl rfl) h0
  obtain ⟨s, rfl, rfl, rfl, hs1⟩ := open_string Tryd.underlying9 (hval 1 9 v1 rfl rfl) h1
  obtain ⟨before, rfl, rfl, rfl, hs2⟩ := open_string Tryd.underlying9 (hval 2 9 v2 rfl rfl) h2
  obtain ⟨after, rfl, rfl, rfl, hs3⟩ := open_string Tryd.underlying9 (hval 3 9 v3 rfl rfl) h3
  obtain ⟨a, rfl, rfl, rfl, hs4⟩ := open_int Tryd.underlying5 (hval 4 5 v4 rfl rfl) h4
  obtain ⟨b, rfl, rfl, rfl, hs5⟩ := open_int Tryd.underlying5 (hval 5 5 v5 rfl rfl) h5
  refine (back_s n s before after a b W hs0 hs4 hs5 (pok hL)).mono fun e W' ⟨he, hb⟩ => ?_
  subst he
  exact ⟨_, rfl, _, _, _, [], p, [], hW', trodAll_mk1 (shut_bool Tryd.underlying4 _), fin W' hb, rfl, hb.frame _, fun h => by cases h⟩

set_option maxRecDepth 100000 in
theorem back_lifted (os : Os) (started : os.Started) (H : Type) (enc : TypeId × Value → H) (F : Stop.Interp) :
    ReturnsInHanded {} Tryd.checked os 8 .any ((OpenSpec.ofChange Rows.digestBackSpec).preRow enc Tryd.prog Tryd.f8 Rows.digestBackRow.domain false Rows.digestBackRow.laid) (((OpenSpec.ofChange Rows.digestBackSpec).at F).post enc Tryd.prog Tryd.f8 false true false false) := by
  refine returnsInHanded_of_row (C := Tryd.checked) (s := OpenSpec.ofChange Rows.digestBackSpec) own started (by kernel_rfl) Tryd.func8
    (witness_row (enc := enc) (C := Tryd.checked) false (World.laidAll Tryd.prog os Rows.digestBackRow.laid) #[.int .u64 0, .string ⟨#[]⟩, .string ⟨#[]⟩, .string ⟨#[]⟩, .int .u8 0, .int .u8 0] (World.laidAll_os _ _ _)
      (World.shaped_of_ZipB (by kernel_rfl) (by kernel_rfl)) (by kernel_rfl)
      (OpenSpec.preRow_of_cond 8 (x := ([.lit (.int .u64 0), .lit (.string []), .lit (.string []), .lit (.string []), .lit (.int .u8 0), .lit (.int .u8 0)], [], [])) (by kernel_rfl) (by kernel_rfl) (fun k hk => by cases hk) (by kernel_rfl)
        (by rw [MakeChecks.laidMetH_plain _ _ _ (by kernel_rfl)]; exact laidMet_laidAll _ (by kernel_rfl) (by kernel_rfl)))) ?_
  intro W base args ds gs before hval hW _ _ _ hL hsh _
  exact back_contract H enc W base args ds gs before hval hW hL hsh

set_option maxRecDepth 100000 in
theorem back_said : Rows.DigestBackSaid :=
  OpenClaim.holds_of_cond 8 Tryd.f8 rfl rfl rfl rfl rfl rfl rfl ⟨rfl, rfl, rfl, rfl, rfl⟩ rfl rfl rfl rfl rfl (by kernel_rfl) Tryd.func8 (by kernel_rfl)
    (of_decide_eq_true (by kernel_rfl)) (by unfold Func.isWrapper; first | (rw [if_pos (by decide +kernel)]; kernel_rfl) | (rw [if_neg (by decide +kernel)]; exact ⟨rfl, rfl⟩))
    (fun os started H enc _ F => by rw [OpenClaim.pre_eq_preRow]; exact back_lifted os started H enc F)

set_option maxRecDepth 100000 in
theorem back_plain (f : FuncId) (fn : Func) (hf : Tryd.pinned.checked.prog.funcNamed "identity/identitylaw03.DigestBack" = some f) (hfn : Tryd.pinned.checked.prog.funcs[f]? = some fn) :
    false = Tryd.pinned.checked.prog.looks [] ∧ ∀ (j : Nat) t, fn.params[j]? = some t → Tryd.pinned.checked.prog.wantsStandIn t = false := by
  obtain rfl : f = 8 := Option.some.inj ((show Tryd.prog.funcNamed "identity/identitylaw03.DigestBack" = some 8 by kernel_rfl).symm.trans hf) |>.symm
  obtain rfl : fn = Tryd.f8 := (Option.some.inj (Tryd.func8.symm.trans hfn)).symm
  refine ⟨by kernel_rfl, fun j t ht => ?_⟩
  rw [Tryd.params8] at ht
  have hm : t ∈ [22, 9, 9, 9, 5, 5] := by simpa using Array.mem_of_getElem? ht
  have hall : ([22, 9, 9, 9, 5, 5].all fun u => !Tryd.prog.wantsStandIn u) = true := by kernel_rfl
  exact (show Tryd.prog.wantsStandIn t = false by simpa using List.all_eq_true.1 hall t hm)

/-- THE CARD -/
theorem back_card : Rows.DigestBackCardSaid :=
  Claim7.holds_tied_plain_at .later [] _ _ _ _ back_said (fun _ h => by cases h) (by kernel_rfl) (fun _ h => by cases h) digestBack_row_tie rfl ⟨rfl, rfl⟩ (by kernel_rfl) rfl back_plain (by kernel_rfl)
end Go.Proofs.YtnncfifpgjlpaaaDoor
