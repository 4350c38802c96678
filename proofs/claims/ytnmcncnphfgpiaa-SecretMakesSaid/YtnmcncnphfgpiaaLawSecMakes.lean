/-
  Proved: identitylaw22.SecretMakes returns true for all arguments. No condition beyond the row's own.
-/
import Derived.Test.YtnmcncnphfgpiaaSecLaws
import Derived.Deep.RegionHeld3
set_option linter.unusedVariables false
set_option linter.unusedSimpArgs false
set_option linter.unnecessarySimpa false
namespace Go.Proofs.Ytnmcncnphfgpiaa
open Go.ChangeShapes Go.WideShapes Go.ChangeAt Go.RowKit Go.PlainAid
open Go.ChangeMaps (open_string shut_string)

theorem bne_b (x : Bool) : (x != x) = false := bne_self_eq_false _
theorem beq_b (x : Bool) : (x == x) = true := beq_self_eq_true _
theorem bne_i (x : Int) : (x != x) = false := bne_self_eq_false _
/-- the boxes of SecretMakes: both verifiers -/
structure MkI (W : World) (b : ByteArray) (x : Int) (h : ByteArray) (c1 c2 : Nat) (V : World) : Prop where
  low : Below W.heap.size W V
  one : KbC V c1 (vfO b x h)
  two : KbC V c2 (vfO b x h)
set_option maxRecDepth 100000 in
set_option maxHeartbeats 16000000 in
theorem lsmakes_s (pw : ByteArray) (salt : ByteArray) (r : Int) (l : Option Addr) (ln lc : Nat) (ll : List Vf) (W : World) (Mpw : pw.size ≤ maxLen) (Msalt : salt.size ≤ maxLen) (Mr : -9223372036854775808 ≤ r ∧ r ≤ 9223372036854775807) (Ml : VfsAt W l ln lc ll) (ho : MaxOk W) :
    Calls Try.prog 3 #[.string pw, .string salt, .int .i64 r, .slice l ln lc] W fun e w' => e = .returned (.bool true) ∧ Below W.heap.size W w' := by
  unfold maxLen at Mpw Msalt
  have HO := Lib.hid ho
  have HL := Lib.hid Ml
  obtain ⟨hl1, hl2, hl3, _, _⟩ := Ml
  subst hl1
  unfold maxLen at hl3
  have HR := Lib.hid Mr
  clear ho Mr
  by_cases h1 : 400 < pw.size
  · have d1 : (400 : Int) < (pw.size : Int) := by omega
    go_enter Try.func3, Try.ntmps3
    go_wp2_with fail
    refine (awake_s _ HO.out).mono ?_
    rintro e w1 ⟨rfl, hb⟩
    go_wp2_with fail
    go_ret
    exact ⟨rfl, hb⟩
  · have d1 : ¬ (400 : Int) < (pw.size : Int) := by omega
    by_cases h2 : 400 < salt.size
    · have d2 : (400 : Int) < (salt.size : Int) := by omega
      go_enter Try.func3, Try.ntmps3
      go_wp2_with fail
      refine (awake_s _ HO.out).mono ?_
      rintro e w1 ⟨rfl, hb⟩
      go_wp2_with fail
      go_ret
      exact ⟨rfl, hb⟩
    · have d2 : ¬ (400 : Int) < (salt.size : Int) := by omega
      by_cases h3 : 4 < ll.length
      · have d3 : (4 : Int) < (ll.length : Int) := by omega
        go_enter Try.func3, Try.ntmps3
        go_wp2_with fail
        refine (awake_s _ HO.out).mono ?_
        rintro e w1 ⟨rfl, hb⟩
        go_wp2_with fail
        go_ret
        exact ⟨rfl, hb⟩
      · have d3 : ¬ (4 : Int) < (ll.length : Int) := by omega
        obtain ⟨⟨b, x, h⟩, hv⟩ : ∃ v, mkV pw salt r = v := ⟨_, rfl⟩
        obtain ⟨z, hz⟩ : ∃ z, mkE pw salt r = z := ⟨_, rfl⟩
        have HV := Lib.hid (And.intro hv hz)
        clear hv hz
        have e1 : (b.toList == b.toList) = true := beq_self_eq_true _
        have e2 : (x == x) = true := beq_self_eq_true _
        have e3 : (h.toList == h.toList) = true := beq_self_eq_true _
        have e4 : (z != z) = false := bne_i z
        go_enter Try.func3, Try.ntmps3
        go_wp2_with fail
        refine (make_k pw salt h r z x b _ (by omega) (by omega) HR.out.1 HR.out.2 HV.out.1 HV.out.2).mono ?_
        rintro e w1 ⟨rfl, hb⟩
        have HB := Lib.hid (hb.trans ((box_below w1 (vfO b x h)).mono hb.size))
        have HX := Lib.hid (kbc_new w1 (vfO b x h))
        clear hb
        unfold vfO at HX HB
        go_wp2_with fail
        generalize hV1 : w1.alloc (.cells #[.string b, .int .i64 x, .string h] 25) = V1 at HX HB ⊢
        clear hV1
        refine (rmake_k pw salt h r z x b _ (by omega) (by omega) HR.out.1 HR.out.2 HV.out.1 HV.out.2).mono ?_
        rintro e w2 ⟨rfl, hb⟩
        have hb := hb.trans ((box_below w2 (vfO b x h)).mono hb.size)
        have HX := Lib.hid (HX.out.step hb)
        have HY := Lib.hid (kbc_new w2 (vfO b x h))
        have HB := Lib.hid (HB.out.trans (hb.mono HB.out.size))
        clear hb
        unfold vfO at HX HB HY
        have a0 := HX.out.cell (i := 0) rfl
        have a1 := HX.out.cell (i := 1) rfl
        have a2 := HX.out.cell (i := 2) rfl
        have b0 := HY.out.cell (i := 0) rfl
        have b1 := HY.out.cell (i := 1) rfl
        have b2 := HY.out.cell (i := 2) rfl
        go_wp2_with fail
        generalize hV2 : w2.alloc (.cells #[.string b, .int .i64 x, .string h] 25) = V2 at HB ⊢
        clear a0 a1 a2 b0 b1 b2 HX HY hV2
        go_loopw [13] (fun iv wr => ∃ i : Nat, i ≤ ll.length ∧ iv = .int .i64 i ∧ Hid (Below W.heap.size W wr) ∧ Hid (∀ j, j < i → (vA ll j).1.size ≤ 400 ∧ (vA ll j).2.2.size ≤ 400)) (fun iv _ => ll.length - (intOf iv).toNat)
        case atStart => exact ⟨0, Nat.zero_le _, rfl, HB, Lib.hid (fun j hj => absurd hj (Nat.not_lt_zero _))⟩
        case round =>
          clear HB
          obtain ⟨i, hi, rfl, HB, HS⟩ := hrel
          by_cases hlt : i < ll.length
          · have di : (i : Int) < (ll.length : Int) := by omega
            obtain ⟨lb, lo, hla, hls⟩ := HL.out.2.2.2.1 (by omega)
            subst hla
            have HCl : Hid (∀ V, Below W.heap.size W V → V.cell? ⟨lb, lo + i * 3, none⟩ = some (.string (vA ll i).1) ∧ V.cell? ⟨lb, lo + i * 3 + 1, none⟩ = some (.int .i64 (vA ll i).2.1) ∧ V.cell? ⟨lb, lo + i * 3 + 2, none⟩ = some (.string (vA ll i).2.2)) :=
              Lib.hid fun V hV => (hls.below hV hls.1).2 i hlt
            clear hls
            obtain ⟨⟨a, q, g⟩, hc⟩ : ∃ c, vA ll i = c := ⟨_, rfl⟩
            rw [hc] at HCl
            have HC := Lib.hid hc
            clear hc
            dsimp only at HCl
            obtain ⟨c0, c1, c2⟩ := HCl.out _ HB.out
            by_cases ha : 400 < a.size
            · have da : (400 : Int) < (a.size : Int) := by omega
              go_wp2_with fail
              refine (awake_s _ (HO.out.below HB.out HO.out.lt)).mono ?_
              rintro e w3 ⟨rfl, hb⟩
              have HB := Lib.hid (HB.out.trans (hb.mono HB.out.size))
              clear hb c0 c1 c2
              go_wp2_with fail
              go_ret
              exact ⟨rfl, HB.out⟩
            · have da : ¬ (400 : Int) < (a.size : Int) := by omega
              by_cases hg : 400 < g.size
              · have dg : (400 : Int) < (g.size : Int) := by omega
                go_wp2_with fail
                refine (awake_s _ (HO.out.below HB.out HO.out.lt)).mono ?_
                rintro e w3 ⟨rfl, hb⟩
                have HB := Lib.hid (HB.out.trans (hb.mono HB.out.size))
                clear hb c0 c1 c2
                go_wp2_with fail
                go_ret
                exact ⟨rfl, HB.out⟩
              · have dg : ¬ (400 : Int) < (g.size : Int) := by omega
                have HS1 : Hid (∀ j, j < i + 1 → (vA ll j).1.size ≤ 400 ∧ (vA ll j).2.2.size ≤ 400) := Lib.hid fun j hj => if e : j = i then by rw [e, HC.out]; exact ⟨Nat.le_of_not_lt ha, Nat.le_of_not_lt hg⟩ else HS.out j (by omega)
                obtain ⟨v1, hv1⟩ : ∃ x, valB (a, q, g) = x := ⟨_, rfl⟩
                obtain ⟨v2, hv2⟩ : ∃ x, chkB (a, q, g) pw = x := ⟨_, rfl⟩
                have HV1 := Lib.hid hv1
                have HV2 := Lib.hid hv2
                clear hv1 hv2
                have f1 := bne_b v1
                have f2 := bne_b v2
                go_wp2_with fail
                clear c0 c1 c2
                have HB := Lib.hid HB.out.drew
                have HSt : Hid (∀ V, Below W.heap.size W V → V.cell? ⟨lb, lo + i * 3, none⟩ = some (.string a) ∧ V.cell? ⟨lb, lo + i * 3 + 1, none⟩ = some (.int .i64 q) ∧ V.cell? ⟨lb, lo + i * 3 + 2, none⟩ = some (.string g) ∧ Hid (Below W.heap.size W V)) := Lib.hid fun V hV => ⟨(HCl.out V hV).1, (HCl.out V hV).2.1, (HCl.out V hV).2.2, Lib.hid hV⟩
                have S0 := HSt.out _ HB.out
                refine wp_region_held_drew (S := fun V => V.cell? ⟨lb, lo + i * 3, none⟩ = some (.string a) ∧ V.cell? ⟨lb, lo + i * 3 + 1, none⟩ = some (.int .i64 q) ∧ V.cell? ⟨lb, lo + i * 3 + 2, none⟩ = some (.string g) ∧ Hid (Below W.heap.size W V)) (by kernel_rfl) (S0) (fun hS => ?_)
                refine wpAnyH_take (i := 0) (oi := { dst := some 73, op := _, type := _, pos := _, after := _, guard := _ }) (v := ?_) rfl (by kernel_rfl) (by kernel_rfl) (by kernel_rfl) (fun _ _ _ h => h) (Or.inl ⟨by rfl, ?_⟩) (by assumption) ?_
                rotate_left
                · intro w hSw
                  try dsimp only at hSw
                  go_simp
                  try with_reducible rfl
                try simp only [Act.put, List.setIfInBounds_toArray, List.set_cons_zero, List.set_cons_succ]
                refine wpAnyH_take (i := 1) (oi := { dst := some 74, op := _, type := _, pos := _, after := _, guard := _ }) (v := ?_) rfl (by kernel_rfl) (by kernel_rfl) (by kernel_rfl) (fun _ _ _ h => h) (Or.inl ⟨by rfl, ?_⟩) (by assumption) ?_
                rotate_left
                · intro w hSw
                  try dsimp only at hSw
                  go_simp
                  try with_reducible rfl
                try simp only [Act.put, List.setIfInBounds_toArray, List.set_cons_zero, List.set_cons_succ]
                refine wpAnyH_take (i := 2) (oi := { dst := some 75, op := _, type := _, pos := _, after := _, guard := _ }) (v := ?_) rfl (by kernel_rfl) (by kernel_rfl) (by kernel_rfl) (fun _ _ _ h => h) (Or.inl ⟨by rfl, ?_⟩) (by assumption) ?_
                rotate_left
                · intro w hSw
                  try dsimp only at hSw
                  go_simp
                  try with_reducible rfl
                try simp only [Act.put, List.setIfInBounds_toArray, List.set_cons_zero, List.set_cons_succ]
                refine wpAnyH_take (i := 3) (oi := { dst := some 76, op := _, type := _, pos := _, after := _, guard := _ }) (v := ?_) rfl (by kernel_rfl) (by kernel_rfl) (by kernel_rfl) (fun _ _ _ h => h) (Or.inl ⟨by rfl, ?_⟩) (by assumption) ?_
                rotate_left
                · intro w hSw
                  try dsimp only at hSw
                  go_simp
                  try with_reducible rfl
                try simp only [Act.put, List.setIfInBounds_toArray, List.set_cons_zero, List.set_cons_succ]
                refine wpAnyH_take (i := 5) (oi := { dst := some 78, op := _, type := _, pos := _, after := _, guard := _ }) (v := ?_) rfl (by kernel_rfl) (by kernel_rfl) (by kernel_rfl) (fun _ _ _ h => h) (Or.inl ⟨by rfl, ?_⟩) (by assumption) ?_
                rotate_left
                · intro w hSw
                  try dsimp only at hSw
                  go_simp
                  try with_reducible rfl
                try simp only [Act.put, List.setIfInBounds_toArray, List.set_cons_zero, List.set_cons_succ]
                refine wpAnyH_take (i := 6) (oi := { dst := some 79, op := _, type := _, pos := _, after := _, guard := _ }) (v := ?_) rfl (by kernel_rfl) (by kernel_rfl) (by kernel_rfl) (fun _ _ _ h => h) (Or.inl ⟨by rfl, ?_⟩) (by assumption) ?_
                rotate_left
                · intro w hSw
                  try dsimp only at hSw
                  go_simp
                  try with_reducible rfl
                try simp only [Act.put, List.setIfInBounds_toArray, List.set_cons_zero, List.set_cons_succ]
                refine wpAnyH_take (i := 7) (oi := { dst := some 80, op := _, type := _, pos := _, after := _, guard := _ }) (v := ?_) rfl (by kernel_rfl) (by kernel_rfl) (by kernel_rfl) (fun _ _ _ h => h) (Or.inl ⟨by rfl, ?_⟩) (by assumption) ?_
                rotate_left
                · intro w hSw
                  try dsimp only at hSw
                  go_simp
                  try with_reducible rfl
                try simp only [Act.put, List.setIfInBounds_toArray, List.set_cons_zero, List.set_cons_succ]
                refine wpAnyH_take (i := 8) (oi := { dst := some 81, op := _, type := _, pos := _, after := _, guard := _ }) (v := ?_) rfl (by kernel_rfl) (by kernel_rfl) (by kernel_rfl) (fun _ _ _ h => h) (Or.inl ⟨by rfl, ?_⟩) (by assumption) ?_
                rotate_left
                · intro w hSw
                  try dsimp only at hSw
                  go_simp
                  try with_reducible rfl
                try simp only [Act.put, List.setIfInBounds_toArray, List.set_cons_zero, List.set_cons_succ]
                refine wpAnyH_ready (rs := [4]) (by kernel_rfl) (by simp) ?_
                refine AllReadyH.cons rfl (fun K hK => ?_) AllReadyH.nil
                go_simp
                refine (valid_k a g q v1 _ (by omega) (by omega) HV1.out).mono ?_
                rintro e w4 ⟨rfl, hb⟩
                have HB := Lib.hid (HB.out.trans (hb.mono HB.out.size))
                clear hb
                go_wp2_with fail
                refine hK.out _ _ ?_ (fun hHeld => ?_)
                · exact HSt.out _ HB.out
                clear hK K
                try simp only [Act.put, List.setIfInBounds_toArray, List.set_cons_zero, List.set_cons_succ]
                refine wpAnyH_ready (rs := [9]) (by kernel_rfl) (by simp) ?_
                refine AllReadyH.cons rfl (fun K hK => ?_) AllReadyH.nil
                go_simp
                refine (rvalid_k a g q v1 _ (by omega) (by omega) HV1.out).mono ?_
                rintro e w5 ⟨rfl, hb⟩
                have HB := Lib.hid (HB.out.trans (hb.mono HB.out.size))
                clear hb
                go_wp2_with fail
                refine hK.out _ _ ?_ (fun hHeld => ?_)
                · exact HSt.out _ HB.out
                clear hK K
                try simp only [Act.put, List.setIfInBounds_toArray, List.set_cons_zero, List.set_cons_succ]
                refine wpAnyH_take (i := 10) (oi := { dst := some 83, op := _, type := _, pos := _, after := _, guard := _ }) (v := ?_) rfl (by kernel_rfl) (by kernel_rfl) (by kernel_rfl) (fun _ _ _ h => h) (Or.inl ⟨by rfl, ?_⟩) (by assumption) ?_
                rotate_left
                · intro w hSw
                  try dsimp only at hSw
                  go_simp
                  try with_reducible rfl
                try simp only [Act.put, List.setIfInBounds_toArray, List.set_cons_zero, List.set_cons_succ]
                refine wpAnyH_take (i := 11) (oi := { dst := some 84, op := _, type := _, pos := _, after := _, guard := _ }) (v := ?_) rfl (by kernel_rfl) (by kernel_rfl) (by kernel_rfl) (fun _ _ _ h => h) (Or.inl ⟨by rfl, ?_⟩) (by assumption) ?_
                rotate_left
                · intro w hSw
                  try dsimp only at hSw
                  go_simp
                  try with_reducible rfl
                try simp only [Act.put, List.setIfInBounds_toArray, List.set_cons_zero, List.set_cons_succ]
                refine wpAnyH_take (i := 12) (oi := { dst := some 85, op := _, type := _, pos := _, after := _, guard := _ }) (v := ?_) rfl (by kernel_rfl) (by kernel_rfl) (by kernel_rfl) (fun _ _ _ h => h) (Or.inl ⟨by rfl, ?_⟩) (by assumption) ?_
                rotate_left
                · intro w hSw
                  try dsimp only at hSw
                  go_simp
                  try with_reducible rfl
                try simp only [Act.put, List.setIfInBounds_toArray, List.set_cons_zero, List.set_cons_succ]
                refine wpAnyH_take (i := 13) (oi := { dst := some 86, op := _, type := _, pos := _, after := _, guard := _ }) (v := ?_) rfl (by kernel_rfl) (by kernel_rfl) (by kernel_rfl) (fun _ _ _ h => h) (Or.inl ⟨by rfl, ?_⟩) (by assumption) ?_
                rotate_left
                · intro w hSw
                  try dsimp only at hSw
                  go_simp
                  try with_reducible rfl
                try simp only [Act.put, List.setIfInBounds_toArray, List.set_cons_zero, List.set_cons_succ]
                refine wpAnyH_take (i := 14) (oi := { dst := some 87, op := _, type := _, pos := _, after := _, guard := _ }) (v := ?_) rfl (by kernel_rfl) (by kernel_rfl) (by kernel_rfl) (fun _ _ _ h => h) (Or.inl ⟨by rfl, ?_⟩) (by assumption) ?_
                rotate_left
                · intro w hSw
                  try dsimp only at hSw
                  go_simp
                  try with_reducible rfl
                try simp only [Act.put, List.setIfInBounds_toArray, List.set_cons_zero, List.set_cons_succ]
                refine wpAnyH_take (i := 15) (oi := { dst := some 88, op := _, type := _, pos := _, after := _, guard := _ }) (v := ?_) rfl (by kernel_rfl) (by kernel_rfl) (by kernel_rfl) (fun _ _ _ h => h) (Or.inl ⟨by rfl, ?_⟩) (by assumption) ?_
                rotate_left
                · intro w hSw
                  try dsimp only at hSw
                  go_simp
                  try with_reducible rfl
                try simp only [Act.put, List.setIfInBounds_toArray, List.set_cons_zero, List.set_cons_succ]
                refine wpAnyH_take (i := 16) (oi := { dst := some 89, op := _, type := _, pos := _, after := _, guard := _ }) (v := ?_) rfl (by kernel_rfl) (by kernel_rfl) (by kernel_rfl) (fun _ _ _ h => h) (Or.inl ⟨by rfl, ?_⟩) (by assumption) ?_
                rotate_left
                · intro w hSw
                  try dsimp only at hSw
                  go_simp
                  try with_reducible rfl
                try simp only [Act.put, List.setIfInBounds_toArray, List.set_cons_zero, List.set_cons_succ]
                refine wpAnyH_take (i := 18) (oi := { dst := some 91, op := _, type := _, pos := _, after := _, guard := _ }) (v := ?_) rfl (by kernel_rfl) (by kernel_rfl) (by kernel_rfl) (fun _ _ _ h => h) (Or.inl ⟨by rfl, ?_⟩) (by assumption) ?_
                rotate_left
                · intro w hSw
                  try dsimp only at hSw
                  go_simp
                  try with_reducible rfl
                try simp only [Act.put, List.setIfInBounds_toArray, List.set_cons_zero, List.set_cons_succ]
                refine wpAnyH_take (i := 19) (oi := { dst := some 92, op := _, type := _, pos := _, after := _, guard := _ }) (v := ?_) rfl (by kernel_rfl) (by kernel_rfl) (by kernel_rfl) (fun _ _ _ h => h) (Or.inl ⟨by rfl, ?_⟩) (by assumption) ?_
                rotate_left
                · intro w hSw
                  try dsimp only at hSw
                  go_simp
                  try with_reducible rfl
                try simp only [Act.put, List.setIfInBounds_toArray, List.set_cons_zero, List.set_cons_succ]
                refine wpAnyH_take (i := 20) (oi := { dst := some 93, op := _, type := _, pos := _, after := _, guard := _ }) (v := ?_) rfl (by kernel_rfl) (by kernel_rfl) (by kernel_rfl) (fun _ _ _ h => h) (Or.inl ⟨by rfl, ?_⟩) (by assumption) ?_
                rotate_left
                · intro w hSw
                  try dsimp only at hSw
                  go_simp
                  try with_reducible rfl
                try simp only [Act.put, List.setIfInBounds_toArray, List.set_cons_zero, List.set_cons_succ]
                refine wpAnyH_take (i := 21) (oi := { dst := some 94, op := _, type := _, pos := _, after := _, guard := _ }) (v := ?_) rfl (by kernel_rfl) (by kernel_rfl) (by kernel_rfl) (fun _ _ _ h => h) (Or.inl ⟨by rfl, ?_⟩) (by assumption) ?_
                rotate_left
                · intro w hSw
                  try dsimp only at hSw
                  go_simp
                  try with_reducible rfl
                try simp only [Act.put, List.setIfInBounds_toArray, List.set_cons_zero, List.set_cons_succ]
                refine wpAnyH_take (i := 22) (oi := { dst := some 95, op := _, type := _, pos := _, after := _, guard := _ }) (v := ?_) rfl (by kernel_rfl) (by kernel_rfl) (by kernel_rfl) (fun _ _ _ h => h) (Or.inl ⟨by rfl, ?_⟩) (by assumption) ?_
                rotate_left
                · intro w hSw
                  try dsimp only at hSw
                  go_simp
                  try with_reducible rfl
                try simp only [Act.put, List.setIfInBounds_toArray, List.set_cons_zero, List.set_cons_succ]
                refine wpAnyH_ready (rs := [17]) (by kernel_rfl) (by simp) ?_
                refine AllReadyH.cons rfl (fun K hK => ?_) AllReadyH.nil
                go_simp
                refine (check_k a g pw q v2 _ (by omega) (by omega) (by omega) HV2.out).mono ?_
                rintro e w6 ⟨rfl, hb⟩
                have HB := Lib.hid (HB.out.trans (hb.mono HB.out.size))
                clear hb
                go_wp2_with fail
                refine hK.out _ _ ?_ (fun hHeld => ?_)
                · exact HSt.out _ HB.out
                clear hK K
                try simp only [Act.put, List.setIfInBounds_toArray, List.set_cons_zero, List.set_cons_succ]
                refine wpAnyH_ready (rs := [23]) (by kernel_rfl) (by simp) ?_
                refine AllReadyH.cons rfl (fun K hK => ?_) AllReadyH.nil
                go_simp
                refine (rcheck_k a g pw q v2 _ (by omega) (by omega) (by omega) HV2.out).mono ?_
                rintro e w7 ⟨rfl, hb⟩
                have HB := Lib.hid (HB.out.trans (hb.mono HB.out.size))
                clear hb
                go_wp2_with fail
                refine hK.out _ _ ?_ (fun hHeld => ?_)
                · exact HSt.out _ HB.out
                clear hK K
                try simp only [Act.put, List.setIfInBounds_toArray, List.set_cons_zero, List.set_cons_succ]
                refine wpAnyH_take (i := 24) (oi := { dst := some 97, op := _, type := _, pos := _, after := _, guard := _ }) (v := ?_) rfl (by kernel_rfl) (by kernel_rfl) (by kernel_rfl) (fun _ _ _ h => h) (Or.inl ⟨by rfl, ?_⟩) (by assumption) ?_
                rotate_left
                · intro w hSw
                  try dsimp only at hSw
                  go_simp
                  try with_reducible rfl
                try simp only [Act.put, List.setIfInBounds_toArray, List.set_cons_zero, List.set_cons_succ]
                refine wpAnyH_take (i := 25) (oi := { dst := some 98, op := _, type := _, pos := _, after := _, guard := _ }) (v := ?_) rfl (by kernel_rfl) (by kernel_rfl) (by kernel_rfl) (fun _ _ _ h => h) (Or.inl ⟨by rfl, ?_⟩) (by assumption) ?_
                rotate_left
                · intro w hSw
                  try dsimp only at hSw
                  go_simp
                  try with_reducible rfl
                try simp only [Act.put, List.setIfInBounds_toArray, List.set_cons_zero, List.set_cons_succ]
                refine wpAnyH_done (by kernel_rfl) ?_ _
                go_wp2_with fail
                go_roundw
                case rel => exact ⟨i + 1, by omega, by go_num, HB, HS1⟩
                case measure => simp [intOf]; omega
          · obtain rfl : i = ll.length := by omega
            have HSm : Hid (∀ v ∈ ll, SmV v) := Lib.hid fun v hv => by
              obtain ⟨j, hj, rfl⟩ := List.mem_iff_getElem.1 hv
              have := HS.out j hj
              unfold vA at this
              rw [List.getD_eq_getElem?_getD, List.getElem?_eq_getElem hj] at this
              exact ⟨Nat.le_trans this.1 (by decide), Nat.le_trans this.2 (by decide)⟩
            obtain ⟨v1, hv1⟩ : ∃ x, reuB ll pw = x := ⟨_, rfl⟩
            have HV1 := Lib.hid hv1
            clear hv1
            have f1 := beq_b v1
            go_wp2_with fail
            refine (reused_k l ll.length lc ll pw v1 _ (by omega) (HL.out.below HB.out) HSm.out HV1.out).mono ?_
            rintro e w4 ⟨rfl, hb⟩
            have HB := Lib.hid (HB.out.trans (hb.mono HB.out.size))
            clear hb
            go_wp2_with fail
            refine (rreused_k l ll.length lc ll pw v1 _ (by omega) (HL.out.below HB.out) HSm.out HV1.out).mono ?_
            rintro e w5 ⟨rfl, hb⟩
            have HB := Lib.hid (HB.out.trans (hb.mono HB.out.size))
            clear hb
            go_wp2_with fail
            refine (awake_s _ (HO.out.below HB.out HO.out.lt)).mono ?_
            rintro e w6 ⟨rfl, hb⟩
            have HB := Lib.hid (HB.out.trans (hb.mono HB.out.size))
            clear hb
            go_wp2_with fail
            go_ret
            exact ⟨rfl, HB.out⟩

theorem lsmakes_types : ∀ t ∈ [9, 9, 3, 22], Try.prog.readableRec t = true ∧ t < Try.prog.types.size := by
  have h : ([9, 9, 3, 22].all fun t => Try.prog.readableRec t && decide (t < Try.prog.types.size)) = true := by kernel_rfl
  intro t ht
  have := List.all_eq_true.1 h t ht
  simpa using this

set_option maxRecDepth 100000 in
theorem lsmakes_contract (H : Type) (enc : TypeId × Value → H) (W : World) (base : Nat) (args : Array Value) (ds gs : List (DataW H)) (before : List MemPlace)
    (hval : ∀ (j : Nat) t v, Try.f3.params[j]? = some t → args[j]? = some v → Value.okWide Try.prog W .any base t v)
    (hW : DataW.Whole enc Try.prog Try.f3.params.toList Rows.secretMakesSpec.vars false W args.toList ds gs before) (hsh : W.ShapedOpen Try.prog) :
    Calls Try.prog 3 args W fun e W' => ∃ v, e = .returned v ∧ Rows.secretMakesSpec.post enc Try.prog Try.f3 false true false false W args v W' := by
  have hW' := hW
  obtain ⟨p, q, hA0, hV, rfl, hfz, hnd⟩ := hW
  have hA : DataW.TrodAll enc Try.prog W 0 (fun _ => true) true Try.f3.params.toList args.toList ds p := hA0
  obtain ⟨rfl, rfl⟩ := trodVars_none hV
  simp only [List.append_nil] at hW'
  have hlt : ∀ x ∈ p, x.block < W.heap.size := fun x hx => by simpa using hW'.lt x hx
  have fin : ∀ W', Below W.heap.size W W' → DataW.TrodAll enc Try.prog W' 0 (fun b => decide (b < W.heap.size)) true [9, 9, 3, 22] args.toList ds p := fun W' hb => by
    rw [Try.params3] at hA
    exact trodAll_below hb _ _ _ _ lsmakes_types hA hlt
  clear hA0
  rw [Try.params3] at hA hval
  obtain ⟨v0, vs0, d0, ds0, p0, q0, hargs, rfl, hp0, h0, r0⟩ := trodAll_cons hA
  obtain ⟨v1, vs1, d1, ds1, p1, q1, rfl, rfl, hp1, h1, r1⟩ := trodAll_cons r0
  obtain ⟨v2, vs2, d2, ds2, p2, q2, rfl, rfl, hp2, h2, r2⟩ := trodAll_cons r1
  obtain ⟨v3, vs3, d3, ds3, p3, q3, rfl, rfl, hp3, h3, r3⟩ := trodAll_cons r2
  obtain ⟨rfl, rfl, rfl⟩ := trodAll_nil r3
  obtain rfl : args = #[v0, v1, v2, v3] := by cases args; simp_all
  obtain ⟨pw, rfl, rfl, rfl, hs0⟩ := open_string Try.underlying9 (hval 0 9 v0 rfl rfl) h0
  obtain ⟨salt, rfl, rfl, rfl, hs1⟩ := open_string Try.underlying9 (hval 1 9 v1 rfl rfl) h1
  obtain ⟨r, rfl, rfl, rfl, hs2⟩ := open_int Try.underlying3 (hval 2 3 v2 rfl rfl) h2
  obtain ⟨l, ln, lc, ll, rfl, hs3⟩ := open_vfs (hval 3 22 v3 rfl rfl) h3
  refine (lsmakes_s pw salt r l ln lc ll W hs0 hs1 (int_range hs2) hs3 (max_ok hsh)).mono fun e W' ⟨he, hb⟩ => ?_
  subst he
  exact ⟨_, rfl, _, _, _, [], p, [], hW', trodAll_mk1 (shut_bool Try.underlying4 _), fin W' hb, rfl, hb.frame _, fun h => by cases h⟩

set_option maxRecDepth 100000 in
theorem lsmakes_lifted (os : Os) (started : os.Started) (H : Type) (enc : TypeId × Value → H) :
    ReturnsInHanded {} Try.checked os 3 .any (Rows.secretMakesSpec.pre6 enc Try.prog Try.f3 Rows.secretMakesRow.domain false) (Rows.secretMakesSpec.post enc Try.prog Try.f3 false true false false) := by
  refine returnsInHanded_of_change_shaped (C := Try.checked) own started (by kernel_rfl) Try.func3
    (ChangeSpec.witness6 (enc := enc) (C := Try.checked) false ⟨#[], #[.string ⟨#[]⟩, .string ⟨#[]⟩, .int .i64 0, .slice none 0 0], []⟩ 8 (by kernel_rfl) (by kernel_rfl) (by kernel_rfl) (by kernel_rfl)) ?_
  intro W base args ds gs before hval hW _ _ hsh _
  exact lsmakes_contract H enc W base args ds gs before hval hW hsh

set_option maxRecDepth 100000 in
/-- THE STATEMENT -/
theorem lsmakes_said : Rows.SecretMakesSaid :=
  OpenClaim.holds_of_wide 3 Try.f3 rfl rfl rfl rfl rfl rfl rfl ⟨rfl, rfl, rfl, rfl, rfl⟩ rfl rfl rfl rfl rfl (by kernel_rfl) Try.func3 (by kernel_rfl)
    (of_decide_eq_true (by kernel_rfl)) (by unfold Func.isWrapper; first | (rw [if_pos (by decide +kernel)]; kernel_rfl) | (rw [if_neg (by decide +kernel)]; exact ⟨rfl, rfl⟩))
    (fun os started H enc _ => lsmakes_lifted os started H enc)
end Go.Proofs.Ytnmcncnphfgpiaa
