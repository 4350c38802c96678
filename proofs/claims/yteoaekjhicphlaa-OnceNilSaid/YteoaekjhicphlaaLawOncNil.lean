/-
  Proved: identitylaw27.OnceNil returns true for all arguments. No condition beyond the row's own.
-/
import Derived.Test.YteoaekjhicphlaaOncV
import Derived.Deep.RegionHeld3
set_option linter.unusedVariables false
set_option linter.unusedSimpArgs false
set_option linter.unnecessarySimpa false
namespace Go.Proofs.Yteoaekjhicphlaa
open Go.ChangeShapes Go.WideShapes Go.ChangeAt Go.RowKit Go.PlainAid
open Go.ChangeMaps (open_string shut_string)

set_option maxRecDepth 100000 in
set_option maxHeartbeats 16000000 in
theorem lonil_s (u : ByteArray) (til : Int) (now : Int) (W : World) (Mu : u.size ≤ maxLen) (Mtil : -9223372036854775808 ≤ til ∧ til ≤ 9223372036854775807) (Mnow : -9223372036854775808 ≤ now ∧ now ≤ 9223372036854775807) :
    Calls Try.prog 8 #[.string u, .int .i64 til, .int .i64 now] W fun e w' => e = .returned (.bool true) ∧ Below W.heap.size W w' := by
  have hul := Mu
  unfold maxLen at hul
  by_cases hu : 100 < u.size
  · have d1 : (100 : Int) < (u.size : Int) := by omega
    go_enter Try.func8, Try.ntmps8
    go_wp2_with fail
    refine (alive_s _).mono ?_
    rintro e w9 ⟨rfl, hb⟩
    go_wp2_with fail
    go_ret
    exact ⟨rfl, hb⟩
  · have d1 : ¬ (100 : Int) < (u.size : Int) := by omega
    have HB0 : Hid (Below W.heap.size W ((W.alloc (.cells #[.pointer none, .int .i64 0, .map none] 49)).alloc (.cells #[.pointer none, .pointer (some ⟨W.heap.size, 0, none⟩)] 25))) :=
      Lib.hid ((box_below W _).trans ((box_below _ _).mono (by simp)))
    have HK : Hid (∀ V, Below ((W.alloc (.cells #[.pointer none, .int .i64 0, .map none] 49)).alloc (.cells #[.pointer none, .pointer (some ⟨W.heap.size, 0, none⟩)] 25)).heap.size ((W.alloc (.cells #[.pointer none, .int .i64 0, .map none] 49)).alloc (.cells #[.pointer none, .pointer (some ⟨W.heap.size, 0, none⟩)] 25)) V →
        V.cell? ⟨W.heap.size + 1, 1, none⟩ = some (.pointer (some ⟨W.heap.size, 0, none⟩)) ∧ NoReg V (.pointer (some ⟨W.heap.size, 0, none⟩))) := Lib.hid fun V hV => by
      have h1 := (kbc_new (W.alloc (.cells #[.pointer none, .int .i64 0, .map none] 49)) (.cells #[.pointer none, .pointer (some ⟨W.heap.size, 0, none⟩)] 25)).step hV
      have h2 := ((kbc_new W (.cells #[.pointer none, .int .i64 0, .map none] 49)).step (box_below _ _)).step hV
      rw [World.size_alloc] at h1
      exact ⟨h1.cell rfl, .inr ⟨_, rfl, h2⟩⟩
    obtain ⟨W2, hW2⟩ : ∃ W2, ((W.alloc (.cells #[.pointer none, .int .i64 0, .map none] 49)).alloc (.cells #[.pointer none, .pointer (some ⟨W.heap.size, 0, none⟩)] 25)) = W2 := ⟨_, rfl⟩
    have c0 : W2.cell? ⟨W.heap.size + 1, 0, none⟩ = some (.pointer none) := by
      rw [← hW2]
      have h1 := (kbc_new (W.alloc (.cells #[.pointer none, .int .i64 0, .map none] 49)) (.cells #[.pointer none, .pointer (some ⟨W.heap.size, 0, none⟩)] 25))
      rw [World.size_alloc] at h1
      exact h1.cell rfl
    rw [hW2] at HB0 HK
    go_enter Try.func8, Try.ntmps8
    go_wp2_with fail
    refine wp_loop_rounds 3 ?_
    rw [rounds_succ]
    go_wp2_with fail
    refine (use_no (.pointer none) u til now _ (.inl rfl)).mono ?_
    rintro e w' ⟨rfl, rfl⟩
    go_wp2_with fail
    refine (seen_no (.pointer none) u now _ (.inl rfl)).mono ?_
    rintro e w3 ⟨rfl, hb⟩
    have HB := Lib.hid hb
    clear hb
    go_wp2_with fail
    refine (purge_no (.pointer none) now _ (.inl rfl)).mono ?_
    rintro e w' ⟨rfl, rfl⟩
    go_wp2_with fail
    refine (len_no (.pointer none) _ (.inl rfl)).mono ?_
    rintro e w' ⟨rfl, rfl⟩
    go_wp2_with fail
    rw [rounds_succ]
    obtain ⟨c1, hno⟩ := HK.out _ HB.out
    have HNo := Lib.hid hno
    clear hno c0
    go_wp2_with fail
    refine (use_no _ u til now _ HNo.out).mono ?_
    rintro e w' ⟨rfl, rfl⟩
    go_wp2_with fail
    refine (seen_no _ u now _ HNo.out).mono ?_
    rintro e w4 ⟨rfl, hb⟩
    have HNo := Lib.hid (HNo.out.step hb)
    have HB := Lib.hid (HB.out.trans (hb.mono HB.out.size))
    clear hb c1
    go_wp2_with fail
    refine (purge_no _ now _ HNo.out).mono ?_
    rintro e w' ⟨rfl, rfl⟩
    go_wp2_with fail
    refine (len_no _ _ HNo.out).mono ?_
    rintro e w' ⟨rfl, rfl⟩
    go_wp2_with fail
    rw [rounds_succ]
    go_wp2_with fail
    refine (alive_s _).mono ?_
    rintro e w9 ⟨rfl, hb⟩
    have HB := Lib.hid (HB.out.trans (hb.mono HB.out.size))
    clear hb
    go_wp2_with fail
    go_ret
    exact ⟨rfl, HB0.out.trans (HB.out.mono HB0.out.size)⟩

theorem lonil_types : ∀ t ∈ [9, 3, 3], Try.prog.readableRec t = true ∧ t < Try.prog.types.size := by
  have h : ([9, 3, 3].all fun t => Try.prog.readableRec t && decide (t < Try.prog.types.size)) = true := by kernel_rfl
  intro t ht
  have := List.all_eq_true.1 h t ht
  simpa using this

set_option maxRecDepth 100000 in
theorem lonil_contract (H : Type) (enc : TypeId × Value → H) (W : World) (base : Nat) (args : Array Value) (ds gs : List (DataW H)) (before : List MemPlace)
    (hval : ∀ (j : Nat) t v, Try.f8.params[j]? = some t → args[j]? = some v → Value.okWide Try.prog W .any base t v)
    (hW : DataW.Whole enc Try.prog Try.f8.params.toList Rows.onceNilSpec.vars false W args.toList ds gs before) (hsh : W.ShapedOpen Try.prog) :
    Calls Try.prog 8 args W fun e W' => ∃ v, e = .returned v ∧ Rows.onceNilSpec.post enc Try.prog Try.f8 false true false false W args v W' := by
  have hW' := hW
  obtain ⟨p, q, hA0, hV, rfl, hfz, hnd⟩ := hW
  have hA : DataW.TrodAll enc Try.prog W 0 (fun _ => true) true Try.f8.params.toList args.toList ds p := hA0
  obtain ⟨rfl, rfl⟩ := trodVars_none hV
  simp only [List.append_nil] at hW'
  have hlt : ∀ x ∈ p, x.block < W.heap.size := fun x hx => by simpa using hW'.lt x hx
  have fin : ∀ W', Below W.heap.size W W' → DataW.TrodAll enc Try.prog W' 0 (fun b => decide (b < W.heap.size)) true [9, 3, 3] args.toList ds p := fun W' hb => by
    rw [Try.params8] at hA
    exact trodAll_below hb _ _ _ _ lonil_types hA hlt
  clear hA0
  rw [Try.params8] at hA hval
  obtain ⟨v0, vs0, d0, ds0, p0, q0, hargs, rfl, hp0, h0, r0⟩ := trodAll_cons hA
  obtain ⟨v1, vs1, d1, ds1, p1, q1, rfl, rfl, hp1, h1, r1⟩ := trodAll_cons r0
  obtain ⟨v2, vs2, d2, ds2, p2, q2, rfl, rfl, hp2, h2, r2⟩ := trodAll_cons r1
  obtain ⟨rfl, rfl, rfl⟩ := trodAll_nil r2
  obtain rfl : args = #[v0, v1, v2] := by cases args; simp_all
  obtain ⟨u, rfl, rfl, rfl, hs0⟩ := open_string Try.underlying9 (hval 0 9 v0 rfl rfl) h0
  obtain ⟨til, rfl, rfl, rfl, hs1⟩ := open_int Try.underlying3 (hval 1 3 v1 rfl rfl) h1
  obtain ⟨now, rfl, rfl, rfl, hs2⟩ := open_int Try.underlying3 (hval 2 3 v2 rfl rfl) h2
  refine (lonil_s u til now W hs0 (int_range hs1) (int_range hs2)).mono fun e W' ⟨he, hb⟩ => ?_
  subst he
  exact ⟨_, rfl, _, _, _, [], p, [], hW', trodAll_mk1 (shut_bool Try.underlying4 _), fin W' hb, rfl, hb.frame _, fun h => by cases h⟩

set_option maxRecDepth 100000 in
theorem lonil_lifted (os : Os) (started : os.Started) (H : Type) (enc : TypeId × Value → H) :
    ReturnsInHanded {} Try.checked os 8 .any (Rows.onceNilSpec.pre6 enc Try.prog Try.f8 Rows.onceNilRow.domain false) (Rows.onceNilSpec.post enc Try.prog Try.f8 false true false false) := by
  refine returnsInHanded_of_change_shaped (C := Try.checked) own started (by kernel_rfl) Try.func8
    (ChangeSpec.witness6 (enc := enc) (C := Try.checked) false ⟨#[], #[.string ⟨#[]⟩, .int .i64 0, .int .i64 0], []⟩ 8 (by kernel_rfl) (by kernel_rfl) (by kernel_rfl) (by kernel_rfl)) ?_
  intro W base args ds gs before hval hW _ _ hsh _
  exact lonil_contract H enc W base args ds gs before hval hW hsh

set_option maxRecDepth 100000 in
/-- THE STATEMENT -/
theorem lonil_said : Rows.OnceNilSaid :=
  OpenClaim.holds_of_wide 8 Try.f8 rfl rfl rfl rfl rfl rfl rfl ⟨rfl, rfl, rfl, rfl, rfl⟩ rfl rfl rfl rfl rfl (by kernel_rfl) Try.func8 (by kernel_rfl)
    (of_decide_eq_true (by kernel_rfl)) (by unfold Func.isWrapper; first | (rw [if_pos (by decide +kernel)]; kernel_rfl) | (rw [if_neg (by decide +kernel)]; exact ⟨rfl, rfl⟩))
    (fun os started H enc _ => lonil_lifted os started H enc)
end Go.Proofs.Yteoaekjhicphlaa
