/-
  Proved: identitylaw15.CsnChain returns true for every number, list of clocks and replica (the tied card). No condition beyond the row's own.
-/
import Derived.Test.YtcnhkoijphfibaaDoorCsnLaws
set_option linter.unusedVariables false
set_option linter.unusedSimpArgs false
set_option linter.unnecessarySimpa false
namespace Go.Proofs.YtcnhkoijphfibaaDoor
open Go.ChangeShapes Go.WideShapes Go.ChangeAt Go.RowKit Go.PlainAid
open Go.ChangeMaps (open_string shut_string)

structure ChS (w : World) (b7 : Nat) (c : Obj) (co : Option Addr) (n cap : Nat) (cl : List Int) (V : World) : Prop where
  low : Below w.heap.size w V
  ok : WOk V
  k7 : KbC V b7 c
  ints : IntsAt V co n cap cl
theorem ChS.step {w V X : World} {b7 : Nat} {c : Obj} {co : Option Addr} {n cap : Nat} {cl : List Int} (h : ChS w b7 c co n cap cl V) (hb : Below V.heap.size V X) : ChS w b7 c co n cap cl X :=
  ⟨h.low.trans (hb.mono h.low.size), h.ok.below hb, h.k7.step hb, h.ints.below hb⟩
theorem ints_at {V : World} {b off n cap : Nat} {cl : List Int} (h : IntsAt V (some ⟨b, off, none⟩) n cap cl) {i : Nat} (hi : i < n) : V.cell? ⟨b, off + i, none⟩ = some (.int .i64 (cl.getD i 0)) := by
  obtain ⟨b', o', e, _, hc⟩ := h.2.2.2 (by omega)
  cases e
  exact hc i (by rw [h.1]; exact hi)
theorem box_store (v : World) (t : TypeId) (a b c x y z : Value) :
    Below v.heap.size v ((((v.alloc (.cells #[a, b, c] t)).setCell ⟨v.heap.size, 0, none⟩ x).setCell ⟨v.heap.size, 1, none⟩ y).setCell ⟨v.heap.size, 2, none⟩ z) ∧
    KbC ((((v.alloc (.cells #[a, b, c] t)).setCell ⟨v.heap.size, 0, none⟩ x).setCell ⟨v.heap.size, 1, none⟩ y).setCell ⟨v.heap.size, 2, none⟩ z) v.heap.size (.cells #[x, y, z] t) :=
  ⟨((((box_below v _).setCell (p := ⟨v.heap.size, 0, none⟩) (Nat.le_refl _) x).setCell (p := ⟨v.heap.size, 1, none⟩) (Nat.le_refl _) y).setCell (p := ⟨v.heap.size, 2, none⟩) (Nat.le_refl _) z), (kbc_new v _).set3⟩
set_option maxRecDepth 100000 in
set_option maxHeartbeats 16000000 in
theorem chain_s (last : Cn) (k : Option Addr) (kn kc : Nat) (kl : List Int) (r : Int) (w : World) (hk : IntsAt w k kn kc kl) (hr : (Lit.int .i64 r).wf = true) (ho : WOk w) :
    Calls Tryd.prog 6 #[cnV last, .slice k kn kc, .int .i64 r] w fun e w' => e = .returned (.bool true) ∧ Below w.heap.size w w' := by
  obtain ⟨t, s, q⟩ := last
  show Calls _ _ #[.agg #[.int .i64 t, .int .i64 s, .int .i64 q], .slice k kn kc, .int .i64 r] w _
  have HI := Lib.hid hk
  have HIw := HI
  have HOw := Lib.hid ho
  clear hk
  have HW0 := Lib.hid (box_below w (.cells #[.int .i64 t, .int .i64 s, .int .i64 q] 23))
  have HO0 := Lib.hid (ho.below (box_below w (.cells #[.int .i64 t, .int .i64 s, .int .i64 q] 23)))
  have HI0 := Lib.hid (HI.out.below (box_below w (.cells #[.int .i64 t, .int .i64 s, .int .i64 q] 23)))
  have X0 : Hid (KbC (w.alloc (.cells #[.int .i64 t, .int .i64 s, .int .i64 q] 23)) w.heap.size (.cells #[.int .i64 t, .int .i64 s, .int .i64 q] 23)) := Lib.hid (kbc_new _ _)
  have ld0 : (w.alloc (.cells #[.int .i64 t, .int .i64 s, .int .i64 q] 23)).cell? ⟨w.heap.size, 0, none⟩ = some (.int .i64 t) := X0.out.cell rfl
  have ld1 : (w.alloc (.cells #[.int .i64 t, .int .i64 s, .int .i64 q] 23)).cell? ⟨w.heap.size, 1, none⟩ = some (.int .i64 s) := X0.out.cell rfl
  have ld2 : (w.alloc (.cells #[.int .i64 t, .int .i64 s, .int .i64 q] 23)).cell? ⟨w.heap.size, 2, none⟩ = some (.int .i64 q) := X0.out.cell rfl
  clear ho
  by_cases hn : kn ≤ 20
  · have d0 : ¬ (20 : Int) < (kn : Int) := by omega
    obtain ⟨v, hv⟩ : ∃ v, vldC (t, s, q) = v := ⟨_, rfl⟩
    have HV := Lib.hid hv
    go_enter Tryd.func6, Tryd.ntmps6
    go_wp2_with fail
    clear ld0 ld1 ld2
    generalize w.alloc (.cells #[.int .i64 t, .int .i64 s, .int .i64 q] 23) = w0 at HW0 HO0 HI0 X0 ⊢
    refine (vldb_k t s q v _ HV.out).mono ?_
    rintro _ w1 ⟨rfl, hb⟩
    have HW1 := Lib.hid (HW0.out.trans (hb.mono HW0.out.size))
    have HO1 := Lib.hid (HO0.out.below hb)
    have HI1 := Lib.hid (HI0.out.below hb)
    have X1 := Lib.hid (X0.out.step hb)
    clear hb HW0 HO0 HI0 X0
    cases v
    · skip
      go_wp2_with fail
      refine (live_s _ HO1.out).mono ?_
      rintro _ w2 ⟨rfl, hb⟩
      go_wp2_with fail
      go_ret
      exact ⟨rfl, HW1.out.trans (hb.mono HW1.out.size)⟩
    · have HVl := Lib.hid ((vldC_iff _).1 hv)
      clear hv
      have ld0 : w1.cell? ⟨w.heap.size, 0, none⟩ = some (.int .i64 t) := X1.out.cell rfl
      have ld1 : w1.cell? ⟨w.heap.size, 1, none⟩ = some (.int .i64 s) := X1.out.cell rfl
      have ld2 : w1.cell? ⟨w.heap.size, 2, none⟩ = some (.int .i64 q) := X1.out.cell rfl
      have HCh : Hid (ChS w w1.heap.size (.cells #[.int .i64 t, .int .i64 s, .int .i64 q] 23) k kn kc kl (w1.alloc (.cells #[.int .i64 t, .int .i64 s, .int .i64 q] 23))) := Lib.hid ⟨HW1.out.alloc HW1.out.size _, HO1.out.below (box_below _ _), kbc_new _ _, HI1.out.below (box_below _ _)⟩
      go_wp2_with fail
      clear ld0 ld1 ld2
      generalize w1.alloc (.cells #[.int .i64 t, .int .i64 s, .int .i64 q] 23) = w2 at HCh ⊢
      go_loopw [23] (fun iv wr => ∃ i : Nat, i ≤ kn ∧ iv = .int .i64 i ∧ ∃ a b d : Int, Hid (Vld (a, b, d)) ∧ Hid (ChS w w1.heap.size (.cells #[.int .i64 a, .int .i64 b, .int .i64 d] 23) k kn kc kl wr)) (fun iv _ => kn - (intOf iv).toNat)
      case atStart => exact ⟨0, Nat.zero_le _, rfl, t, s, q, HVl, HCh⟩
      case round =>
        clear HCh HVl HV HO1 HI1 X1 HI
        obtain ⟨i, hi, rfl, a, b, d, HV, HC⟩ := hrel
        by_cases hlt : i < kn
        · have d1 : (i : Int) < (kn : Int) := by omega
          have i0 : (0 : Int) ≤ (i : Int) := by omega
          obtain ⟨bo, off, rfl, _, _⟩ := HC.out.ints.2.2.2 (by omega)
          obtain ⟨m, hm⟩ : ∃ m, kl.getD i 0 = m := ⟨_, rfl⟩
          have HM := Lib.hid hm
          clear hm
          obtain ⟨⟨x, y, z⟩, hv⟩ : ∃ p, nxtV (a, b, d) m r = p := ⟨_, rfl⟩
          obtain ⟨e, he⟩ : ∃ p, nxtE (a, b, d) m r = p := ⟨_, rfl⟩
          have HT := Lib.hid (nxt_ok (c := (a, b, d)) (now := m) (r := r))
          have HA := Lib.hid (nxt_arg HV.out m r)
          rw [hv, he] at HT
          rw [he] at HA
          have HNv := Lib.hid hv
          have HNe := Lib.hid he
          clear hv he
          have HSt := Lib.hid (show ∀ V : World, ChS w w1.heap.size (.cells #[.int .i64 a, .int .i64 b, .int .i64 d] 23) (some ⟨bo, off, none⟩) kn kc kl V → (fun V => V.cell? ⟨w1.heap.size, 0, none⟩ = some (.int .i64 a) ∧ V.cell? ⟨w1.heap.size, 1, none⟩ = some (.int .i64 b) ∧ V.cell? ⟨w1.heap.size, 2, none⟩ = some (.int .i64 d) ∧ V.cell? ⟨bo, off + i, none⟩ = some (.int .i64 m) ∧ Hid (ChS w w1.heap.size (.cells #[.int .i64 a, .int .i64 b, .int .i64 d] 23) (some ⟨bo, off, none⟩) kn kc kl V)) V from fun V h => ⟨h.k7.cell rfl, h.k7.cell rfl, h.k7.cell rfl, HM.out ▸ ints_at h.ints hlt, Lib.hid h⟩)
          go_wp2_with fail
          go_cut [9, 10] (fun pv ev wx => ∃ b9 : Nat, pv = .pointer (some ⟨b9, 0, none⟩) ∧ ev = .int .i64 e ∧ Hid (ChS w w1.heap.size (.cells #[.int .i64 a, .int .i64 b, .int .i64 d] 23) (some ⟨bo, off, none⟩) kn kc kl wx ∧ KbC wx b9 (.cells #[.int .i64 x, .int .i64 y, .int .i64 z] 23)))
          case first =>
            have S0 := HSt.out _ (HC.out.step (Below.refl _ _).drew)
            have HC := Lib.hid (HC.out.step (Below.refl _ _).drew)
            refine wp_region_held_drew (S := fun V => V.cell? ⟨w1.heap.size, 0, none⟩ = some (.int .i64 a) ∧ V.cell? ⟨w1.heap.size, 1, none⟩ = some (.int .i64 b) ∧ V.cell? ⟨w1.heap.size, 2, none⟩ = some (.int .i64 d) ∧ V.cell? ⟨bo, off + i, none⟩ = some (.int .i64 m) ∧ Hid (ChS w w1.heap.size (.cells #[.int .i64 a, .int .i64 b, .int .i64 d] 23) (some ⟨bo, off, none⟩) kn kc kl V)) (by kernel_rfl) (S0) (fun hS => ?_)
            refine wpAnyH_take (i := 0) (oi := { dst := some 27, op := _, type := _, pos := _, after := _, guard := _ }) (v := ?_) rfl (by kernel_rfl) (by kernel_rfl) (by kernel_rfl) (fun _ _ _ h => h) (Or.inl ⟨by rfl, ?_⟩) (by assumption) ?_
            rotate_left
            · intro w hSw
              try dsimp only at hSw
              go_simp
              try with_reducible rfl
            try simp only [Act.put, List.setIfInBounds_toArray, List.set_cons_zero, List.set_cons_succ]
            refine wpAnyH_take (i := 1) (oi := { dst := some 28, op := _, type := _, pos := _, after := _, guard := _ }) (v := ?_) rfl (by kernel_rfl) (by kernel_rfl) (by kernel_rfl) (fun _ _ _ h => h) (Or.inl ⟨by rfl, ?_⟩) (by assumption) ?_
            rotate_left
            · intro w hSw
              try dsimp only at hSw
              go_simp
              try with_reducible rfl
            try simp only [Act.put, List.setIfInBounds_toArray, List.set_cons_zero, List.set_cons_succ]
            refine wpAnyH_take (i := 2) (oi := { dst := some 29, op := _, type := _, pos := _, after := _, guard := _ }) (v := ?_) rfl (by kernel_rfl) (by kernel_rfl) (by kernel_rfl) (fun _ _ _ h => h) (Or.inl ⟨by rfl, ?_⟩) (by assumption) ?_
            rotate_left
            · intro w hSw
              try dsimp only at hSw
              go_simp
              try with_reducible rfl
            try simp only [Act.put, List.setIfInBounds_toArray, List.set_cons_zero, List.set_cons_succ]
            refine wpAnyH_take (i := 3) (oi := { dst := some 30, op := _, type := _, pos := _, after := _, guard := _ }) (v := ?_) rfl (by kernel_rfl) (by kernel_rfl) (by kernel_rfl) (fun _ _ _ h => h) (Or.inl ⟨by rfl, ?_⟩) (by assumption) ?_
            rotate_left
            · intro w hSw
              try dsimp only at hSw
              go_simp
              try with_reducible rfl
            try simp only [Act.put, List.setIfInBounds_toArray, List.set_cons_zero, List.set_cons_succ]
            refine wpAnyH_take (i := 4) (oi := { dst := some 31, op := _, type := _, pos := _, after := _, guard := _ }) (v := ?_) rfl (by kernel_rfl) (by kernel_rfl) (by kernel_rfl) (fun _ _ _ h => h) (Or.inl ⟨by rfl, ?_⟩) (by assumption) ?_
            rotate_left
            · intro w hSw
              try dsimp only at hSw
              go_simp
              try with_reducible rfl
            try simp only [Act.put, List.setIfInBounds_toArray, List.set_cons_zero, List.set_cons_succ]
            refine wpAnyH_take (i := 5) (oi := { dst := some 32, op := _, type := _, pos := _, after := _, guard := _ }) (v := ?_) rfl (by kernel_rfl) (by kernel_rfl) (by kernel_rfl) (fun _ _ _ h => h) (Or.inl ⟨by rfl, ?_⟩) (by assumption) ?_
            rotate_left
            · intro w hSw
              try dsimp only at hSw
              go_simp
              try with_reducible rfl
            try simp only [Act.put, List.setIfInBounds_toArray, List.set_cons_zero, List.set_cons_succ]
            refine wpAnyH_ready (rs := [6, 10]) (by kernel_rfl) (by simp) ?_
            refine AllReadyH.cons rfl (fun K hK => ?_) (AllReadyH.cons rfl (fun K hK => ?_) AllReadyH.nil)
            · go_simp
              refine (next_k a b d m r x y z e _ HNv.out HNe.out).mono ?_
              rintro _ v1 ⟨rfl, hb⟩
              have HC := Lib.hid (HC.out.step hb)
              clear hb
              go_wp2_with fail
              refine hK.out _ _ ?_ (fun hHeld => ?_)
              · exact HSt.out _ HC.out
              clear hK K
              try simp only [Act.put, List.setIfInBounds_toArray, List.set_cons_zero, List.set_cons_succ]
              refine wpAnyH_take (i := 7) (oi := { dst := some 26, op := _, type := _, pos := _, after := _, guard := _ }) (v := ?_) rfl (by kernel_rfl) (by kernel_rfl) (by kernel_rfl) (fun _ _ _ h => h) (Or.inl ⟨by rfl, ?_⟩) (by assumption) ?_
              rotate_left
              · intro w hSw
                try dsimp only at hSw
                go_simp
                try with_reducible rfl
              try simp only [Act.put, List.setIfInBounds_toArray, List.set_cons_zero, List.set_cons_succ]
              refine wpAnyH_take (i := 8) (oi := { dst := some 34, op := _, type := _, pos := _, after := _, guard := _ }) (v := ?_) rfl (by kernel_rfl) (by kernel_rfl) (by kernel_rfl) (fun _ _ _ h => h) (Or.inl ⟨by rfl, ?_⟩) (by assumption) ?_
              rotate_left
              · intro w hSw
                try dsimp only at hSw
                go_simp
                try with_reducible rfl
              try simp only [Act.put, List.setIfInBounds_toArray, List.set_cons_zero, List.set_cons_succ]
              refine wpAnyH_take (i := 9) (oi := { dst := some 35, op := _, type := _, pos := _, after := _, guard := _ }) (v := ?_) rfl (by kernel_rfl) (by kernel_rfl) (by kernel_rfl) (fun _ _ _ h => h) (Or.inl ⟨by rfl, ?_⟩) (by assumption) ?_
              rotate_left
              · intro w hSw
                try dsimp only at hSw
                go_simp
                try with_reducible rfl
              try simp only [Act.put, List.setIfInBounds_toArray, List.set_cons_zero, List.set_cons_succ]
              refine wpAnyH_ready (rs := [10]) (by kernel_rfl) (by simp) ?_
              refine AllReadyH.cons rfl (fun K hK => ?_) AllReadyH.nil
              go_simp
              refine hK.out _ _ ?_ (fun hHeld => ?_)
              · exact HSt.out _ (HC.out.step (box_below _ _))
              clear hK K
              skip
              try simp only [Act.put, List.setIfInBounds_toArray, List.set_cons_zero, List.set_cons_succ]
              refine wpAnyH_ready (rs := [11]) (by kernel_rfl) (by simp) ?_
              refine AllReadyH.cons rfl (fun K hK => ?_) AllReadyH.nil
              go_simp
              refine hK.out _ _ ?_ (fun hHeld => ?_)
              · exact HSt.out _ (HC.out.step (box_below _ _))
              clear hK K
              have HB9 := Lib.hid (kbc_new v1 (.cells #[.int .i64 x, .int .i64 y, .int .i64 z] 23))
              have HC := Lib.hid (HC.out.step (box_below v1 (.cells #[.int .i64 x, .int .i64 y, .int .i64 z] 23)))
              try simp only [Act.put, List.setIfInBounds_toArray, List.set_cons_zero, List.set_cons_succ]
              refine wpAnyH_take (i := 12) (oi := { dst := some 10, op := _, type := _, pos := _, after := _, guard := _ }) (v := ?_) rfl (by kernel_rfl) (by kernel_rfl) (by kernel_rfl) (fun _ _ _ h => h) (Or.inl ⟨by rfl, ?_⟩) (by assumption) ?_
              rotate_left
              · intro w hSw
                try dsimp only at hSw
                go_simp
                try with_reducible rfl
              try simp only [Act.put, List.setIfInBounds_toArray, List.set_cons_zero, List.set_cons_succ]
              refine wpAnyH_done (by kernel_rfl) ?_ _
              go_wp2_with fail
              go_meet
              exact ⟨_, rfl, rfl, Lib.hid ⟨HC.out, HB9.out⟩⟩
            · go_simp
              refine hK.out _ _ ?_ (fun hHeld => ?_)
              · exact HSt.out _ (HC.out.step (box_below _ _))
              clear hK K
              have HY := Lib.hid (show Below wr.drew.heap.size wr.drew (wr.alloc (.cells #[.int .i64 0, .int .i64 0, .int .i64 0] 23)).drew from box_below wr.drew (.cells #[.int .i64 0, .int .i64 0, .int .i64 0] 23))
              have HZ : Hid (KbC (wr.alloc (.cells #[.int .i64 0, .int .i64 0, .int .i64 0] 23)).drew wr.heap.size (.cells #[.int .i64 0, .int .i64 0, .int .i64 0] 23)) := Lib.hid (kbc_new wr.drew _)
              try simp only [Act.put, List.setIfInBounds_toArray, List.set_cons_zero, List.set_cons_succ]
              refine wpAnyH_ready (rs := [6]) (by kernel_rfl) (by simp) ?_
              refine AllReadyH.cons rfl (fun K hK => ?_) AllReadyH.nil
              go_simp
              refine (next_k a b d m r x y z e _ HNv.out HNe.out).mono ?_
              rintro _ v1 ⟨rfl, hb⟩
              have HY := Lib.hid (HY.out.trans (hb.mono HY.out.size))
              have HZ := Lib.hid (HZ.out.step hb)
              clear hb
              have gf : ∀ j, v1.frozen? ⟨wr.heap.size, j, none⟩ = false := fun j => HZ.out.frz
              have z0 : v1.cell? ⟨wr.heap.size, 0, none⟩ = some (.int .i64 0) := HZ.out.cell rfl
              have z1 : v1.cell? ⟨wr.heap.size, 1, none⟩ = some (.int .i64 0) := HZ.out.cell rfl
              have z2 : v1.cell? ⟨wr.heap.size, 2, none⟩ = some (.int .i64 0) := HZ.out.cell rfl
              go_wp2_with fail
              refine hK.out _ _ ?_ (fun hHeld => ?_)
              · exact HSt.out _ (HC.out.step HY.out)
              clear hK K
              try simp only [Act.put, List.setIfInBounds_toArray, List.set_cons_zero, List.set_cons_succ]
              refine wpAnyH_take (i := 7) (oi := { dst := some 26, op := _, type := _, pos := _, after := _, guard := _ }) (v := ?_) rfl (by kernel_rfl) (by kernel_rfl) (by kernel_rfl) (fun _ _ _ h => h) (Or.inl ⟨by rfl, ?_⟩) (by assumption) ?_
              rotate_left
              · intro w hSw
                try dsimp only at hSw
                go_simp
                try with_reducible rfl
              try simp only [Act.put, List.setIfInBounds_toArray, List.set_cons_zero, List.set_cons_succ]
              refine wpAnyH_take (i := 8) (oi := { dst := some 34, op := _, type := _, pos := _, after := _, guard := _ }) (v := ?_) rfl (by kernel_rfl) (by kernel_rfl) (by kernel_rfl) (fun _ _ _ h => h) (Or.inl ⟨by rfl, ?_⟩) (by assumption) ?_
              rotate_left
              · intro w hSw
                try dsimp only at hSw
                go_simp
                try with_reducible rfl
              try simp only [Act.put, List.setIfInBounds_toArray, List.set_cons_zero, List.set_cons_succ]
              refine wpAnyH_take (i := 9) (oi := { dst := some 35, op := _, type := _, pos := _, after := _, guard := _ }) (v := ?_) rfl (by kernel_rfl) (by kernel_rfl) (by kernel_rfl) (fun _ _ _ h => h) (Or.inl ⟨by rfl, ?_⟩) (by assumption) ?_
              rotate_left
              · intro w hSw
                try dsimp only at hSw
                go_simp
                try with_reducible rfl
              try simp only [Act.put, List.setIfInBounds_toArray, List.set_cons_zero, List.set_cons_succ]
              refine wpAnyH_ready (rs := [11]) (by kernel_rfl) (by simp) ?_
              refine AllReadyH.cons rfl (fun K hK => ?_) AllReadyH.nil
              go_simp
              refine hK.out _ _ ?_ (fun hHeld => ?_)
              · exact HSt.out _ (HC.out.step (((HY.out.setCell (p := ⟨wr.heap.size, 0, none⟩) (Nat.le_refl _) _).setCell (p := ⟨wr.heap.size, 1, none⟩) (Nat.le_refl _) _).setCell (p := ⟨wr.heap.size, 2, none⟩) (Nat.le_refl _) _))
              clear hK K
              have HB9 := Lib.hid (HZ.out.set3 (u := .int .i64 x) (v := .int .i64 y) (q := .int .i64 z))
              have HC := Lib.hid (HC.out.step (((HY.out.setCell (p := ⟨wr.heap.size, 0, none⟩) (Nat.le_refl _) (.int .i64 x)).setCell (p := ⟨wr.heap.size, 1, none⟩) (Nat.le_refl _) (.int .i64 y)).setCell (p := ⟨wr.heap.size, 2, none⟩) (Nat.le_refl _) (.int .i64 z)))
              try simp only [Act.put, List.setIfInBounds_toArray, List.set_cons_zero, List.set_cons_succ]
              refine wpAnyH_take (i := 12) (oi := { dst := some 10, op := _, type := _, pos := _, after := _, guard := _ }) (v := ?_) rfl (by kernel_rfl) (by kernel_rfl) (by kernel_rfl) (fun _ _ _ h => h) (Or.inl ⟨by rfl, ?_⟩) (by assumption) ?_
              rotate_left
              · intro w hSw
                try dsimp only at hSw
                go_simp
                try with_reducible rfl
              try simp only [Act.put, List.setIfInBounds_toArray, List.set_cons_zero, List.set_cons_succ]
              refine wpAnyH_done (by kernel_rfl) ?_ _
              go_wp2_with fail
              go_meet
              exact ⟨_, rfl, rfl, Lib.hid ⟨HC.out, HB9.out⟩⟩
          case rest =>
            obtain ⟨b9, rfl, rfl, HCC⟩ := hcut
            clear HC
            by_cases he0 : e = 0
            · obtain ⟨ta, tb, tc, td⟩ := HT.out he0
              have q1 : (e != 0) = false := by rw [he0]; rfl
              have HTa := Lib.hid ta
              have HCm := Lib.hid (cmpC_lt.2 tb)
              obtain ⟨f, hf⟩ : ∃ f, fmtS (a, b, d) = f := ⟨_, rfl⟩
              obtain ⟨g, hg⟩ : ∃ g, fmtS (x, y, z) = g := ⟨_, rfl⟩
              have q2 : Op.bytesLess f.toList g.toList = true := by
                rw [← hf, ← hg, Lib.toList_data, Lib.toList_data]
                unfold fmtS
                rw [if_pos HV.out, if_pos ta]
                exact fmt_less HV.out ta tb
              obtain ⟨u, hu⟩ : ∃ u, insI m = u := ⟨_, rfl⟩
              have q3 : decide (x < u) = false := decide_eq_false (by rw [← hu]; have : insI m ≤ x := td; omega)
              have HF := Lib.hid hf
              have HG := Lib.hid hg
              have HU := Lib.hid hu
              clear ta tb tc td hf hg hu he0
              have HSt2 := Lib.hid (show ∀ V : World, (ChS w w1.heap.size (.cells #[.int .i64 a, .int .i64 b, .int .i64 d] 23) (some ⟨bo, off, none⟩) kn kc kl V ∧ KbC V b9 (.cells #[.int .i64 x, .int .i64 y, .int .i64 z] 23)) → (fun V => V.cell? ⟨w1.heap.size, 0, none⟩ = some (.int .i64 a) ∧ V.cell? ⟨w1.heap.size, 1, none⟩ = some (.int .i64 b) ∧ V.cell? ⟨w1.heap.size, 2, none⟩ = some (.int .i64 d) ∧ V.cell? ⟨b9, 0, none⟩ = some (.int .i64 x) ∧ V.cell? ⟨b9, 1, none⟩ = some (.int .i64 y) ∧ V.cell? ⟨b9, 2, none⟩ = some (.int .i64 z) ∧ V.cell? ⟨bo, off + i, none⟩ = some (.int .i64 m) ∧ Hid (ChS w w1.heap.size (.cells #[.int .i64 a, .int .i64 b, .int .i64 d] 23) (some ⟨bo, off, none⟩) kn kc kl V ∧ KbC V b9 (.cells #[.int .i64 x, .int .i64 y, .int .i64 z] 23))) V from fun V ⟨h, h9⟩ => ⟨h.k7.cell rfl, h.k7.cell rfl, h.k7.cell rfl, h9.cell rfl, h9.cell rfl, h9.cell rfl, HM.out ▸ ints_at h.ints hlt, Lib.hid ⟨h, h9⟩⟩)
              go_wp2_with fail
              have S0 := HSt2.out _ ⟨HCC.out.1.step (Below.refl _ _).drew, HCC.out.2.step (Below.refl _ _).drew⟩
              have HC := Lib.hid (show ChS w w1.heap.size (.cells #[.int .i64 a, .int .i64 b, .int .i64 d] 23) (some ⟨bo, off, none⟩) kn kc kl wc.drew ∧ KbC wc.drew b9 (.cells #[.int .i64 x, .int .i64 y, .int .i64 z] 23) from ⟨HCC.out.1.step (Below.refl _ _).drew, HCC.out.2.step (Below.refl _ _).drew⟩)
              refine wp_region_held_drew (S := fun V => V.cell? ⟨w1.heap.size, 0, none⟩ = some (.int .i64 a) ∧ V.cell? ⟨w1.heap.size, 1, none⟩ = some (.int .i64 b) ∧ V.cell? ⟨w1.heap.size, 2, none⟩ = some (.int .i64 d) ∧ V.cell? ⟨b9, 0, none⟩ = some (.int .i64 x) ∧ V.cell? ⟨b9, 1, none⟩ = some (.int .i64 y) ∧ V.cell? ⟨b9, 2, none⟩ = some (.int .i64 z) ∧ V.cell? ⟨bo, off + i, none⟩ = some (.int .i64 m) ∧ Hid (ChS w w1.heap.size (.cells #[.int .i64 a, .int .i64 b, .int .i64 d] 23) (some ⟨bo, off, none⟩) kn kc kl V ∧ KbC V b9 (.cells #[.int .i64 x, .int .i64 y, .int .i64 z] 23))) (by kernel_rfl) (S0) (fun hS => ?_)
              refine wpAnyH_take (i := 0) (oi := { dst := some 50, op := _, type := _, pos := _, after := _, guard := _ }) (v := ?_) rfl (by kernel_rfl) (by kernel_rfl) (by kernel_rfl) (fun _ _ _ h => h) (Or.inl ⟨by rfl, ?_⟩) (by assumption) ?_
              rotate_left
              · intro w hSw
                try dsimp only at hSw
                go_simp
                try with_reducible rfl
              try simp only [Act.put, List.setIfInBounds_toArray, List.set_cons_zero, List.set_cons_succ]
              refine wpAnyH_take (i := 1) (oi := { dst := some 51, op := _, type := _, pos := _, after := _, guard := _ }) (v := ?_) rfl (by kernel_rfl) (by kernel_rfl) (by kernel_rfl) (fun _ _ _ h => h) (Or.inl ⟨by rfl, ?_⟩) (by assumption) ?_
              rotate_left
              · intro w hSw
                try dsimp only at hSw
                go_simp
                try with_reducible rfl
              try simp only [Act.put, List.setIfInBounds_toArray, List.set_cons_zero, List.set_cons_succ]
              refine wpAnyH_ready (rs := [2]) (by kernel_rfl) (by simp) ?_
              refine AllReadyH.cons rfl (fun K hK => ?_) AllReadyH.nil
              go_simp
              refine (cmp_k a b d x y z (-1) _ HCm.out).mono ?_
              rintro _ v1 ⟨rfl, hb⟩
              have HC := Lib.hid (And.intro (HC.out.1.step hb) (HC.out.2.step hb))
              clear hb
              go_wp2_with fail
              refine hK.out _ _ ?_ (fun hHeld => ?_)
              · exact HSt2.out _ HC.out
              clear hK K
              try simp only [Act.put, List.setIfInBounds_toArray, List.set_cons_zero, List.set_cons_succ]
              refine wpAnyH_take (i := 3) (oi := { dst := some 53, op := _, type := _, pos := _, after := _, guard := _ }) (v := ?_) rfl (by kernel_rfl) (by kernel_rfl) (by kernel_rfl) (fun _ _ _ h => h) (Or.inl ⟨by rfl, ?_⟩) (by assumption) ?_
              rotate_left
              · intro w hSw
                try dsimp only at hSw
                go_simp
                try with_reducible rfl
              try simp only [Act.put, List.setIfInBounds_toArray, List.set_cons_zero, List.set_cons_succ]
              refine wpAnyH_take (i := 4) (oi := { dst := some 54, op := _, type := _, pos := _, after := _, guard := _ }) (v := ?_) rfl (by kernel_rfl) (by kernel_rfl) (by kernel_rfl) (fun _ _ _ h => h) (Or.inl ⟨by rfl, ?_⟩) (by assumption) ?_
              rotate_left
              · intro w hSw
                try dsimp only at hSw
                go_simp
                try with_reducible rfl
              try simp only [Act.put, List.setIfInBounds_toArray, List.set_cons_zero, List.set_cons_succ]
              refine wpAnyH_take (i := 5) (oi := { dst := some 55, op := _, type := _, pos := _, after := _, guard := _ }) (v := ?_) rfl (by kernel_rfl) (by kernel_rfl) (by kernel_rfl) (fun _ _ _ h => h) (Or.inl ⟨by rfl, ?_⟩) (by assumption) ?_
              rotate_left
              · intro w hSw
                try dsimp only at hSw
                go_simp
                try with_reducible rfl
              try simp only [Act.put, List.setIfInBounds_toArray, List.set_cons_zero, List.set_cons_succ]
              refine wpAnyH_take (i := 7) (oi := { dst := some 57, op := _, type := _, pos := _, after := _, guard := _ }) (v := ?_) rfl (by kernel_rfl) (by kernel_rfl) (by kernel_rfl) (fun _ _ _ h => h) (Or.inl ⟨by rfl, ?_⟩) (by assumption) ?_
              rotate_left
              · intro w hSw
                try dsimp only at hSw
                go_simp
                try with_reducible rfl
              try simp only [Act.put, List.setIfInBounds_toArray, List.set_cons_zero, List.set_cons_succ]
              refine wpAnyH_ready (rs := [6]) (by kernel_rfl) (by simp) ?_
              refine AllReadyH.cons rfl (fun K hK => ?_) AllReadyH.nil
              go_simp
              refine (format_k a b d f _ HC.out.1.ok.2 HF.out).mono ?_
              rintro _ v2 ⟨rfl, hb⟩
              have HC := Lib.hid (And.intro (HC.out.1.step hb) (HC.out.2.step hb))
              clear hb
              go_wp2_with fail
              refine hK.out _ _ ?_ (fun hHeld => ?_)
              · exact HSt2.out _ HC.out
              clear hK K
              try simp only [Act.put, List.setIfInBounds_toArray, List.set_cons_zero, List.set_cons_succ]
              refine wpAnyH_ready (rs := [8]) (by kernel_rfl) (by simp) ?_
              refine AllReadyH.cons rfl (fun K hK => ?_) AllReadyH.nil
              go_simp
              refine (format_k x y z g _ HC.out.1.ok.2 HG.out).mono ?_
              rintro _ v3 ⟨rfl, hb⟩
              have HC := Lib.hid (And.intro (HC.out.1.step hb) (HC.out.2.step hb))
              clear hb
              go_wp2_with fail
              refine hK.out _ _ ?_ (fun hHeld => ?_)
              · exact HSt2.out _ HC.out
              clear hK K
              try simp only [Act.put, List.setIfInBounds_toArray, List.set_cons_zero, List.set_cons_succ]
              refine wpAnyH_take (i := 9) (oi := { dst := some 59, op := _, type := _, pos := _, after := _, guard := _ }) (v := ?_) rfl (by kernel_rfl) (by kernel_rfl) (by kernel_rfl) (fun _ _ _ h => h) (Or.inl ⟨by rfl, ?_⟩) (by assumption) ?_
              rotate_left
              · intro w hSw
                try dsimp only at hSw
                go_simp
                try with_reducible rfl
              try simp only [Act.put, List.setIfInBounds_toArray, List.set_cons_zero, List.set_cons_succ]
              refine wpAnyH_take (i := 10) (oi := { dst := some 60, op := _, type := _, pos := _, after := _, guard := _ }) (v := ?_) rfl (by kernel_rfl) (by kernel_rfl) (by kernel_rfl) (fun _ _ _ h => h) (Or.inl ⟨by rfl, ?_⟩) (by assumption) ?_
              rotate_left
              · intro w hSw
                try dsimp only at hSw
                go_simp
                try with_reducible rfl
              try simp only [Act.put, List.setIfInBounds_toArray, List.set_cons_zero, List.set_cons_succ]
              refine wpAnyH_take (i := 11) (oi := { dst := some 61, op := _, type := _, pos := _, after := _, guard := _ }) (v := ?_) rfl (by kernel_rfl) (by kernel_rfl) (by kernel_rfl) (fun _ _ _ h => h) (Or.inl ⟨by rfl, ?_⟩) (by assumption) ?_
              rotate_left
              · intro w hSw
                try dsimp only at hSw
                go_simp
                try with_reducible rfl
              try simp only [Act.put, List.setIfInBounds_toArray, List.set_cons_zero, List.set_cons_succ]
              refine wpAnyH_take (i := 12) (oi := { dst := some 62, op := _, type := _, pos := _, after := _, guard := _ }) (v := ?_) rfl (by kernel_rfl) (by kernel_rfl) (by kernel_rfl) (fun _ _ _ h => h) (Or.inl ⟨by rfl, ?_⟩) (by assumption) ?_
              rotate_left
              · intro w hSw
                try dsimp only at hSw
                go_simp
                try with_reducible rfl
              try simp only [Act.put, List.setIfInBounds_toArray, List.set_cons_zero, List.set_cons_succ]
              refine wpAnyH_take (i := 13) (oi := { dst := some 63, op := _, type := _, pos := _, after := _, guard := _ }) (v := ?_) rfl (by kernel_rfl) (by kernel_rfl) (by kernel_rfl) (fun _ _ _ h => h) (Or.inl ⟨by rfl, ?_⟩) (by assumption) ?_
              rotate_left
              · intro w hSw
                try dsimp only at hSw
                go_simp
                try with_reducible rfl
              try simp only [Act.put, List.setIfInBounds_toArray, List.set_cons_zero, List.set_cons_succ]
              refine wpAnyH_take (i := 14) (oi := { dst := some 64, op := _, type := _, pos := _, after := _, guard := _ }) (v := ?_) rfl (by kernel_rfl) (by kernel_rfl) (by kernel_rfl) (fun _ _ _ h => h) (Or.inl ⟨by rfl, ?_⟩) (by assumption) ?_
              rotate_left
              · intro w hSw
                try dsimp only at hSw
                go_simp
                try with_reducible rfl
              try simp only [Act.put, List.setIfInBounds_toArray, List.set_cons_zero, List.set_cons_succ]
              refine wpAnyH_take (i := 15) (oi := { dst := some 65, op := _, type := _, pos := _, after := _, guard := _ }) (v := ?_) rfl (by kernel_rfl) (by kernel_rfl) (by kernel_rfl) (fun _ _ _ h => h) (Or.inl ⟨by rfl, ?_⟩) (by assumption) ?_
              rotate_left
              · intro w hSw
                try dsimp only at hSw
                go_simp
                try with_reducible rfl
              try simp only [Act.put, List.setIfInBounds_toArray, List.set_cons_zero, List.set_cons_succ]
              refine wpAnyH_take (i := 16) (oi := { dst := some 66, op := _, type := _, pos := _, after := _, guard := _ }) (v := ?_) rfl (by kernel_rfl) (by kernel_rfl) (by kernel_rfl) (fun _ _ _ h => h) (Or.inl ⟨by rfl, ?_⟩) (by assumption) ?_
              rotate_left
              · intro w hSw
                try dsimp only at hSw
                go_simp
                try with_reducible rfl
              try simp only [Act.put, List.setIfInBounds_toArray, List.set_cons_zero, List.set_cons_succ]
              refine wpAnyH_take (i := 17) (oi := { dst := some 67, op := _, type := _, pos := _, after := _, guard := _ }) (v := ?_) rfl (by kernel_rfl) (by kernel_rfl) (by kernel_rfl) (fun _ _ _ h => h) (Or.inl ⟨by rfl, ?_⟩) (by assumption) ?_
              rotate_left
              · intro w hSw
                try dsimp only at hSw
                go_simp
                try with_reducible rfl
              try simp only [Act.put, List.setIfInBounds_toArray, List.set_cons_zero, List.set_cons_succ]
              refine wpAnyH_ready (rs := [18]) (by kernel_rfl) (by simp) ?_
              refine AllReadyH.cons rfl (fun K hK => ?_) AllReadyH.nil
              go_simp
              refine (instant_k m u _ HU.out).mono ?_
              rintro _ v4 ⟨rfl, hb⟩
              subst hb
              go_wp2_with fail
              refine hK.out _ _ ?_ (fun hHeld => ?_)
              · exact HSt2.out _ HC.out
              clear hK K
              try simp only [Act.put, List.setIfInBounds_toArray, List.set_cons_zero, List.set_cons_succ]
              refine wpAnyH_take (i := 19) (oi := { dst := some 69, op := _, type := _, pos := _, after := _, guard := _ }) (v := ?_) rfl (by kernel_rfl) (by kernel_rfl) (by kernel_rfl) (fun _ _ _ h => h) (Or.inl ⟨by rfl, ?_⟩) (by assumption) ?_
              rotate_left
              · intro w hSw
                try dsimp only at hSw
                go_simp
                try with_reducible rfl
              try simp only [Act.put, List.setIfInBounds_toArray, List.set_cons_zero, List.set_cons_succ]
              refine wpAnyH_take (i := 20) (oi := { dst := some 70, op := _, type := _, pos := _, after := _, guard := _ }) (v := ?_) rfl (by kernel_rfl) (by kernel_rfl) (by kernel_rfl) (fun _ _ _ h => h) (Or.inl ⟨by rfl, ?_⟩) (by assumption) ?_
              rotate_left
              · intro w hSw
                try dsimp only at hSw
                go_simp
                try with_reducible rfl
              try simp only [Act.put, List.setIfInBounds_toArray, List.set_cons_zero, List.set_cons_succ]
              refine wpAnyH_done (by kernel_rfl) ?_ _
              have y0 : v3.cell? ⟨b9, 0, none⟩ = some (.int .i64 x) := HC.out.2.cell rfl
              have y1 : v3.cell? ⟨b9, 1, none⟩ = some (.int .i64 y) := HC.out.2.cell rfl
              have y2 : v3.cell? ⟨b9, 2, none⟩ = some (.int .i64 z) := HC.out.2.cell rfl
              have z0 : v3.cell? ⟨w1.heap.size, 0, none⟩ = some (.int .i64 a) := HC.out.1.k7.cell rfl
              have z1 : v3.cell? ⟨w1.heap.size, 1, none⟩ = some (.int .i64 b) := HC.out.1.k7.cell rfl
              have z2 : v3.cell? ⟨w1.heap.size, 2, none⟩ = some (.int .i64 d) := HC.out.1.k7.cell rfl
              have gf : ∀ j, v3.frozen? ⟨w1.heap.size, j, none⟩ = false := fun j => HC.out.1.k7.frz
              have HL := Lib.hid (((HC.out.1.low.setCell (p := ⟨w1.heap.size, 0, none⟩) HW1.out.size (.int .i64 x)).setCell (p := ⟨w1.heap.size, 1, none⟩) HW1.out.size (.int .i64 y)).setCell (p := ⟨w1.heap.size, 2, none⟩) HW1.out.size (.int .i64 z))
              have HN := Lib.hid (ChS.mk HL.out (HOw.out.below HL.out) (HC.out.1.k7.set3 (u := .int .i64 x) (v := .int .i64 y) (q := .int .i64 z)) (HIw.out.below HL.out))
              go_wp2_with fail
              go_roundw
              case rel => exact ⟨i + 1, by omega, by go_num, x, y, z, HTa, HN⟩
              case measure => simp [intOf]; omega
            · have q1 : (e != 0) = true := bne_iff_ne.2 he0
              have hA := HA.out he0
              have HC := Lib.hid HCC.out.1
              clear HT HA HNv HNe he0 HCC
              by_cases r0 : r < 0
              · have q2 : (e == 2) = true := beq_iff_eq.2 (hA.2 (.inl r0))
                have q3 : decide (r < 0) = true := decide_eq_true r0
                clear hA
                go_wp2_with fail
                refine (live_s _ HC.out.ok).mono ?_
                rintro _ w3 ⟨rfl, hb⟩
                have HC := Lib.hid (HC.out.step hb)
                clear hb
                go_wp2_with fail
                go_ret
                exact ⟨rfl, HC.out.low⟩
              · by_cases r8 : 8 ≤ r
                · have q2 : (e == 2) = true := beq_iff_eq.2 (hA.2 (.inr r8))
                  have q3 : decide (r < 0) = false := decide_eq_false r0
                  have q4 : decide (8 ≤ r) = true := decide_eq_true r8
                  clear hA
                  go_wp2_with fail
                  refine (live_s _ HC.out.ok).mono ?_
                  rintro _ w3 ⟨rfl, hb⟩
                  have HC := Lib.hid (HC.out.step hb)
                  clear hb
                  go_wp2_with fail
                  go_ret
                  exact ⟨rfl, HC.out.low⟩
                · have q2 : (e == 2) = false := beq_eq_false_iff_ne.2 (fun h => (hA.1 h).elim r0 r8)
                  have q3 : decide (r < 0) = false := decide_eq_false r0
                  have q4 : decide (8 ≤ r) = false := decide_eq_false r8
                  clear hA
                  go_wp2_with fail
                  refine (live_s _ HC.out.ok).mono ?_
                  rintro _ w3 ⟨rfl, hb⟩
                  have HC := Lib.hid (HC.out.step hb)
                  clear hb
                  go_wp2_with fail
                  go_ret
                  exact ⟨rfl, HC.out.low⟩
        · have d1 : ¬ (i : Int) < (kn : Int) := by omega
          go_wp2_with fail
          refine (live_s _ HC.out.ok).mono ?_
          rintro _ w3 ⟨rfl, hb⟩
          have HC := Lib.hid (HC.out.step hb)
          clear hb
          go_wp2_with fail
          go_ret
          exact ⟨rfl, HC.out.low⟩
  · have d0 : (20 : Int) < (kn : Int) := by omega
    have HW1 := HW0
    have HO1 := HO0
    go_enter Tryd.func6, Tryd.ntmps6
    go_wp2_with fail
    clear ld0 ld1 ld2
    generalize w.alloc (.cells #[.int .i64 t, .int .i64 s, .int .i64 q] 23) = w0 at HW0 HO0 HW1 HO1 ⊢
    refine (live_s _ HO1.out).mono ?_
    rintro _ w2 ⟨rfl, hb⟩
    go_wp2_with fail
    go_ret
    exact ⟨rfl, HW1.out.trans (hb.mono HW1.out.size)⟩

theorem chain_types : ∀ t ∈ [23, 36, 3], Tryd.prog.readableRec t = true ∧ t < Tryd.prog.types.size := by
  have h : ([23, 36, 3].all fun t => Tryd.prog.readableRec t && decide (t < Tryd.prog.types.size)) = true := by kernel_rfl
  intro t ht
  have := List.all_eq_true.1 h t ht
  simpa using this

set_option maxRecDepth 100000 in
theorem chain_contract (H : Type) (enc : TypeId × Value → H) (W : World) (base : Nat) (args : Array Value) (ds gs : List (DataW H)) (before : List MemPlace)
    (hval : ∀ (j : Nat) t v, Tryd.f6.params[j]? = some t → args[j]? = some v → Value.okWide Tryd.prog W .any base t v)
    (hW : DataW.Whole enc Tryd.prog Tryd.f6.params.toList Rows.csnChainSpec.vars false W args.toList ds gs before) (hL : laidMetH Tryd.prog Rows.csnChainRow.laid W) (hsh : W.ShapedOpen Tryd.prog) :
    Calls Tryd.prog 6 args W fun e W' => ∃ v, e = .returned v ∧ Rows.csnChainSpec.post enc Tryd.prog Tryd.f6 false true false false W args v W' := by
  have hW' := hW
  obtain ⟨p, q, hA0, hV, rfl, hfz, hnd⟩ := hW
  have hA : DataW.TrodAll enc Tryd.prog W 0 (fun _ => true) true Tryd.f6.params.toList args.toList ds p := hA0
  obtain ⟨rfl, rfl⟩ := trodVars_none hV
  simp only [List.append_nil] at hW'
  have hlt : ∀ x ∈ p, x.block < W.heap.size := fun x hx => by simpa using hW'.lt x hx
  have fin : ∀ W', Below W.heap.size W W' → DataW.TrodAll enc Tryd.prog W' 0 (fun b => decide (b < W.heap.size)) true [23, 36, 3] args.toList ds p := fun W' hb => by
    rw [Tryd.params6] at hA
    exact trodAll_below hb _ _ _ _ chain_types hA hlt
  clear hA0
  rw [Tryd.params6] at hA hval
  obtain ⟨v0, vs0, d0, ds0, p0, q0, hargs, rfl, hp0, h0, r0⟩ := trodAll_cons hA
  obtain ⟨v1, vs1, d1, ds1, p1, q1, rfl, rfl, hp1, h1, r1⟩ := trodAll_cons r0
  obtain ⟨v2, vs2, d2, ds2, p2, q2, rfl, rfl, hp2, h2, r2⟩ := trodAll_cons r1
  obtain ⟨rfl, rfl, rfl⟩ := trodAll_nil r2
  obtain rfl : args = #[v0, v1, v2] := by cases args; simp_all
  obtain ⟨last, rfl⟩ := open_cn (hval 0 23 v0 rfl rfl) h0
  obtain ⟨k, kn, kc, kl, rfl, hs1⟩ := open_intl (hval 1 36 v1 rfl rfl) h1
  obtain ⟨r, rfl, rfl, rfl, hs2⟩ := open_int Tryd.underlying3 (hval 2 3 v2 rfl rfl) h2
  refine (chain_s last k kn kc kl r W hs1 hs2 (wok_of hL hsh)).mono fun e W' ⟨he, hb⟩ => ?_
  subst he
  exact ⟨_, rfl, _, _, _, [], p, [], hW', trodAll_mk1 (shut_bool Tryd.underlying4 _), fin W' hb, rfl, hb.frame _, fun h => by cases h⟩

set_option maxRecDepth 100000 in
theorem chain_lifted (os : Os) (started : os.Started) (H : Type) (enc : TypeId × Value → H) (F : Stop.Interp) :
    ReturnsInHanded {} Tryd.checked os 6 .any ((OpenSpec.ofChange Rows.csnChainSpec).preRow enc Tryd.prog Tryd.f6 Rows.csnChainRow.domain false Rows.csnChainRow.laid) (((OpenSpec.ofChange Rows.csnChainSpec).at F).post enc Tryd.prog Tryd.f6 false true false false) := by
  refine returnsInHanded_of_row (C := Tryd.checked) (s := OpenSpec.ofChange Rows.csnChainSpec) own started (by kernel_rfl) Tryd.func6
    (witness_row (enc := enc) (C := Tryd.checked) false (World.laidAll Tryd.prog os Rows.csnChainRow.laid) #[.agg #[.int .i64 0, .int .i64 0, .int .i64 0], .slice none 0 0, .int .i64 0] (World.laidAll_os _ _ _)
      (World.shaped_of_ZipB (by kernel_rfl) (by kernel_rfl)) (by kernel_rfl)
      (OpenSpec.preRow_of_cond 8 (x := ([.agg [.lit (.int .i64 0), .lit (.int .i64 0), .lit (.int .i64 0)], .nil, .lit (.int .i64 0)], [], [])) (by kernel_rfl) (by kernel_rfl) (fun k hk => by cases hk) (by kernel_rfl)
        (by rw [MakeChecks.laidMetH_plain _ _ _ (by kernel_rfl)]; exact laidMet_laidAll _ (by kernel_rfl) (by kernel_rfl)))) ?_
  intro W base args ds gs before hval hW _ _ _ hL hsh _
  exact chain_contract H enc W base args ds gs before hval hW hL hsh

set_option maxRecDepth 100000 in
theorem chain_said : Rows.CsnChainSaid :=
  OpenClaim.holds_of_cond 6 Tryd.f6 rfl rfl rfl rfl rfl rfl rfl ⟨rfl, rfl, rfl, rfl, rfl⟩ rfl rfl rfl rfl rfl (by kernel_rfl) Tryd.func6 (by kernel_rfl)
    (of_decide_eq_true (by kernel_rfl)) (by unfold Func.isWrapper; first | (rw [if_pos (by decide +kernel)]; kernel_rfl) | (rw [if_neg (by decide +kernel)]; exact ⟨rfl, rfl⟩))
    (fun os started H enc _ F => by rw [OpenClaim.pre_eq_preRow]; exact chain_lifted os started H enc F)

set_option maxRecDepth 100000 in
theorem chain_plain (f : FuncId) (fn : Func) (hf : Tryd.pinned.checked.prog.funcNamed "identity/identitylaw15.CsnChain" = some f) (hfn : Tryd.pinned.checked.prog.funcs[f]? = some fn) :
    false = Tryd.pinned.checked.prog.looks [] ∧ ∀ (j : Nat) t, fn.params[j]? = some t → Tryd.pinned.checked.prog.wantsStandIn t = false := by
  obtain rfl : f = 6 := Option.some.inj ((show Tryd.prog.funcNamed "identity/identitylaw15.CsnChain" = some 6 by kernel_rfl).symm.trans hf) |>.symm
  obtain rfl : fn = Tryd.f6 := (Option.some.inj (Tryd.func6.symm.trans hfn)).symm
  refine ⟨by kernel_rfl, fun j t ht => ?_⟩
  rw [Tryd.params6] at ht
  have hm : t ∈ [23, 36, 3] := by simpa using Array.mem_of_getElem? ht
  have hall : ([23, 36, 3].all fun u => !Tryd.prog.wantsStandIn u) = true := by kernel_rfl
  exact (show Tryd.prog.wantsStandIn t = false by simpa using List.all_eq_true.1 hall t hm)

/-- THE CARD -/
theorem chain_card : Rows.CsnChainCardSaid :=
  Claim7.holds_tied_plain_at .later [] _ _ _ _ chain_said (fun _ h => by cases h) (by kernel_rfl) (fun _ h => by cases h) csnChain_row_tie rfl ⟨rfl, rfl⟩ (by kernel_rfl) rfl chain_plain (by kernel_rfl)
end Go.Proofs.YtcnhkoijphfibaaDoor
