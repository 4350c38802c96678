/-
  Proved: identitylaw27.OnceSingle returns true for all arguments. No condition beyond the row's own.
-/
import Derived.Test.YteoaekjhicphlaaOncV
import Derived.Deep.RegionHeld3
set_option linter.unusedVariables false
set_option linter.unusedSimpArgs false
set_option linter.unnecessarySimpa false
namespace Go.Proofs.Yteoaekjhicphlaa
open Go.ChangeShapes Go.WideShapes Go.ChangeAt Go.RowKit Go.PlainAid
open Go.ChangeMaps (open_string shut_string)

theorem OcsAt.sub {W : World} {lb lo n c : Nat} {ll : List Oc} (h : OcsAt W (some ⟨lb, lo, none⟩) n c ll) {i : Nat} (hi : i < n) : OcsAt W (some ⟨lb, lo + i * 4, none⟩) 1 (c - i) [ocA ll i] := by
  obtain ⟨h1, h2, h3, h4, _⟩ := h
  obtain ⟨b, off, e, hs⟩ := h4 (by omega)
  cases e
  refine ⟨rfl, by omega, by omega, fun _ => ⟨lb, lo + i * 4, rfl, hs.1, fun j hj k hk => ?_⟩, fun e => by cases e⟩
  have hj0 : j = 0 := by simp at hj; omega
  subst hj0
  have := hs.2 i (by omega) k hk
  rw [Nat.zero_mul, Nat.add_zero, this]; rfl
/-- a play of one call before the end leaves the identifier -/
theorem pl1_keeps {most : Int} {A : Ol} (h : OlOk most A) {u : ByteArray} {z : Int} {o : Oc} (hz : olO A u = some z) (hn : limI o.nw < z) : olO (plA most A [o]) u = some z := by
  show olO (plS most A o) u = some z
  unfold plS
  split
  · exact (use_keeps h hz hn).1
  · split
    · exact atA_pur_later h.nod hz hn
    · exact hz
theorem kbc_other {w w' : World} {k g : Nat} {o : Obj} (h : KbC w k o) (hg : w.grownBy w' (some g)) (hne : k ≠ g) : KbC w' k o := (hg.block k h.big (fun e => hne (by injection e))).trans h
theorem one_small {o : Oc} (h : o.id.size ≤ 100) : ∀ j, j < [o].length → (ocA [o] j).id.size ≤ 100 := by
  intro j hj
  have hj0 : j = 0 := by simpa using hj
  subst hj0; exact h
theorem beq0 {r : Int} (h : r ≠ 0) : (r == 0) = false := beq_eq_false_iff_ne.2 h
theorem bne0 {r : Int} (h : r ≠ 0) : (r != 0) = true := by simp [h]
set_option maxRecDepth 100000 in
set_option maxHeartbeats 16000000 in
theorem losingle_s (most : Int) (l : Option Addr) (ln lc : Nat) (ll : List Oc) (x : Oc) (W : World) (Mmost : -9223372036854775808 ≤ most ∧ most ≤ 9223372036854775807) (Ml : OcsAt W l ln lc ll) (Mx : InOc x) :
    Calls Try.prog 4 #[.int .i64 most, .slice l ln lc, ocV x] W fun e w' => e = .returned (.bool true) ∧ Below W.heap.size W w' := by
  have HL := Lib.hid Ml
  have hln := Ml.1
  have hl2 := Ml.2.1
  have hl3 := Ml.2.2.1
  subst hln
  unfold maxLen at hl3
  obtain ⟨xk, xu, xx, xm⟩ := x
  obtain ⟨_, mxu, _, _⟩ := Mx
  dsimp only at mxu
  unfold maxLen at mxu
  show Calls Try.prog 4 #[.int .i64 most, .slice l ll.length lc, .agg #[.int .i64 xk, .string xu, .int .i64 xx, .int .i64 xm]] W _
  have HBx := Lib.hid (box_below W (ocO xk xu xx xm))
  have HKx := Lib.hid (kbc_new W (ocO xk xu xx xm))
  have hxb : W.heap.size < (W.alloc (ocO xk xu xx xm)).heap.size := by simp
  obtain ⟨W1, hW1⟩ : ∃ W1, W.alloc (ocO xk xu xx xm) = W1 := ⟨_, rfl⟩
  rw [hW1] at HBx HKx hxb
  have HXc : Hid (∀ V, KbC V W.heap.size (ocO xk xu xx xm) → V.cell? ⟨W.heap.size, 0, none⟩ = some (.int .i64 xk) ∧ V.cell? ⟨W.heap.size, 1, none⟩ = some (.string xu) ∧ V.cell? ⟨W.heap.size, 2, none⟩ = some (.int .i64 xx) ∧ V.cell? ⟨W.heap.size, 3, none⟩ = some (.int .i64 xm)) := Lib.hid fun V h => h.oc
  unfold ocO at hW1
  obtain ⟨b0, b1, b2, b3⟩ := HXc.out _ HKx.out
  obtain ⟨gf, hg⟩ : ∃ gf, fewB ll = gf := ⟨_, rfl⟩
  have HFw := Lib.hid (fun V hV => few_k l ll.length lc ll gf V (HL.out.below hV) hg)
  clear Mmost Ml
  cases gf with
  | false =>
    clear hg
    go_enter Try.func4, Try.ntmps4
    go_wp2_with fail
    refine (HFw.out _ HBx.out).mono ?_
    rintro e w1 ⟨rfl, rfl⟩
    go_wp2_with fail
    refine (alive_s _).mono ?_
    rintro e w9 ⟨rfl, hb⟩
    have HB := Lib.hid (HBx.out.trans (hb.mono HBx.out.size))
    clear hb
    go_wp2_with fail
    go_ret
    exact ⟨rfl, HB.out⟩
  | true =>
    obtain ⟨hl30, hsz⟩ := fewB_out hg
    have HZ := Lib.hid hsz
    clear hg hsz
    by_cases hxl : 100 < xu.size
    · have d1 : (100 : Int) < (xu.size : Int) := by omega
      go_enter Try.func4, Try.ntmps4
      go_wp2_with fail
      refine (HFw.out _ HBx.out).mono ?_
      rintro e w1 ⟨rfl, rfl⟩
      go_wp2_with fail
      refine (alive_s _).mono ?_
      rintro e w9 ⟨rfl, hb⟩
      have HB := Lib.hid (HBx.out.trans (hb.mono HBx.out.size))
      clear hb
      go_wp2_with fail
      go_ret
      exact ⟨rfl, HB.out⟩
    · have d1 : ¬ (100 : Int) < (xu.size : Int) := by omega
      have hxu : xu.size ≤ 1000000000 := by omega
      by_cases hk : 1 ≤ most ∧ most ≤ 256
      · obtain ⟨m0, m1⟩ := hk
        go_enter Try.func4, Try.ntmps4
        go_wp2_with fail
        refine (HFw.out _ HBx.out).mono ?_
        rintro e w1 ⟨rfl, rfl⟩
        go_wp2_with fail
        refine (pnew most W _ HBx.out m0 m1).mono ?_
        rintro e w2 ⟨b, rfl, g, hp, hb2, _, hgx⟩
        have HP := Lib.hid hp
        have HKx := Lib.hid (HKx.out.step hb2)
        have HGx : Hid (W.heap.size ≠ g) := Lib.hid (by omega)
        clear hp hb2 hgx b0 b1 b2 b3
        obtain ⟨b0, b1, b2, b3⟩ := HXc.out _ HKx.out
        go_wp2_with fail
        refine (play_k W b g most [] l ll.length lc ll _ HP.out HL.out HZ.out (by omega)).mono ?_
        rintro e w3 ⟨rfl, hp, hg⟩
        obtain ⟨A1, hA1⟩ : ∃ A1, plA most [] ll = A1 := ⟨_, rfl⟩
        rw [hA1] at hp
        have HP := Lib.hid hp
        have HKx := Lib.hid (kbc_other HKx.out hg HGx.out)
        clear hp hg hA1 b0 b1 b2 b3
        obtain ⟨b0, b1, b2, b3⟩ := HXc.out _ HKx.out
        obtain ⟨z, hz⟩ : ∃ z, limI xx = z := ⟨_, rfl⟩
        have HZx := Lib.hid hz
        have hzb := limI_bd xx
        rw [hz] at hzb
        clear hz
        go_wp2_with fail
        refine (add0_k xx z _ HZx.out).mono ?_
        rintro e w' ⟨rfl, rfl⟩
        go_wp2_with fail
        obtain ⟨⟨r, A2⟩, hr⟩ : ∃ y, useP most A1 xu (limI xx) (limI xm) = y := ⟨_, rfl⟩
        have HR := Lib.hid hr
        refine (puse W b g most A1 A2 xu xx xm r _ HP.out hxu HR.out).mono ?_
        rintro e w4 ⟨rfl, hp, hg⟩
        have HP := Lib.hid hp
        have HKx := Lib.hid (kbc_other HKx.out hg HGx.out)
        clear hp hg b0 b1 b2 b3
        obtain ⟨b0, b1, b2, b3⟩ := HXc.out _ HKx.out
        by_cases hr0 : r = 0
        · subst hr0
          have hdone := use_done (most := most) (A := A1) (u := xu) (t := limI xx) (n := limI xm) (by rw [hr])
          rw [hr, HZx.out] at hdone
          dsimp only at hdone
          have HW := Lib.hid hdone.1
          have HO := Lib.hid hdone.2.2
          have hnb := limI_bd xm
          have hz1 : 1 ≤ z := by have := hdone.2.1; omega
          clear hdone hr hnb
          go_wp2_with fail
          go_loopw [10] (fun iv wr => ∃ (i : Nat) (A : Ol), i ≤ ll.length ∧ iv = .int .i64 i ∧ Hid (olO A xu = some z) ∧ Hid (Pl W b g most A wr) ∧ Hid (KbC wr W.heap.size (ocO xk xu xx xm))) (fun iv _ => ll.length - (intOf iv).toNat)
          case atStart => exact ⟨0, A2, Nat.zero_le _, rfl, HO, HP, HKx⟩
          case round =>
            clear HO HP HKx b0 b1 b2 b3
            obtain ⟨i, A, hi, rfl, HO, HP, HKx⟩ := hrel
            by_cases hlt : i < ll.length
            · have di : (i : Int) < (ll.length : Int) := by omega
              obtain ⟨lb, lw, hla, _⟩ := HL.out.2.2.2.1 (by omega)
              subst hla
              have hu := HZ.out i hlt
              have HSub := Lib.hid (HL.out.sub hlt)
              obtain ⟨⟨q, u, x, m⟩, hc⟩ : ∃ c, ocA ll i = c := ⟨_, rfl⟩
              have HCs := Lib.hid (fun V (hV : Below W.heap.size W V) => HL.out.cells hlt hc hV)
              rw [hc] at hu HSub
              dsimp only at hu
              clear hc
              obtain ⟨c0, c1, c2, c3⟩ := HCs.out _ HP.out.low
              obtain ⟨y, hy⟩ : ∃ y, limI m = y := ⟨_, rfl⟩
              have HY := Lib.hid hy
              clear hy
              by_cases hyz : y < z
              · have f1 : ¬ z ≤ y := by omega
                have HO3 : Hid (olO (plA most A [⟨q, u, x, m⟩]) xu = some z) := Lib.hid (pl1_keeps HP.out.ox.ok HO.out (by rw [HY.out]; exact hyz))
                obtain ⟨A3, hA3⟩ : ∃ A3, plA most A [⟨q, u, x, m⟩] = A3 := ⟨_, rfl⟩
                have HPl := Lib.hid (fun V hp => play_k W b g most A (some ⟨lb, lw + i * 4, none⟩) 1 (lc - i) [⟨q, u, x, m⟩] V hp HSub.out (one_small hu) (by decide))
                rw [hA3] at HO3 HPl
                clear hA3
                have i1 : i + 1 ≤ lc := by omega
                have i2 : ((i : Int) + 1) ≤ (lc : Int) := by omega
                go_wp2_with fail
                refine (add0_k m y _ HY.out).mono ?_
                rintro e w' ⟨rfl, rfl⟩
                go_wp2_with fail
                refine (HPl.out _ HP.out).mono ?_
                rintro e w5 ⟨rfl, hp, hg⟩
                have HP := Lib.hid hp
                have HKx := Lib.hid (kbc_other HKx.out hg HGx.out)
                clear hp hg c0 c1 c2 c3
                obtain ⟨⟨r4, A4⟩, hr4⟩ : ∃ y, useP most A3 xu (limI x) (limI m) = y := ⟨_, rfl⟩
                have hk4 := use_keeps (v := xu) (t := limI x) HP.out.ox.ok HO3.out (n := limI m) (by rw [HY.out]; exact hyz)
                rw [hr4] at hk4
                have f4 : (r4 == 0) = false := beq0 (hk4.2 rfl)
                have HO4 := Lib.hid hk4.1
                have HR4 := Lib.hid hr4
                have HS4 : Hid (decide (limI m < atA A4 xu) = true) := Lib.hid (decide_eq_true (by rw [olO_at HO4.out, HY.out]; exact hyz))
                clear hk4 hr4
                go_wp2_with fail
                have HP := Lib.hid (HP.out.step (Below.refl _ _).drew)
                have HKx := Lib.hid (HKx.out.step (Below.refl _ _).drew)
                have HSt : Hid (∀ V, Below W.heap.size W V → KbC V W.heap.size (ocO xk xu xx xm) → V.cell? ⟨W.heap.size, 1, none⟩ = some (.string xu) ∧ V.cell? ⟨lb, lw + i * 4 + 2, none⟩ = some (.int .i64 x) ∧ V.cell? ⟨lb, lw + i * 4 + 3, none⟩ = some (.int .i64 m)) :=
                  Lib.hid fun V hV hk => ⟨(HXc.out V hk).2.1, (HCs.out V hV).2.2.1, (HCs.out V hV).2.2.2⟩
                have S0 := HSt.out _ HP.out.low HKx.out
                refine wp_region_held_drew (S := fun V => V.cell? ⟨W.heap.size, 1, none⟩ = some (.string xu) ∧ V.cell? ⟨lb, lw + i * 4 + 2, none⟩ = some (.int .i64 x) ∧ V.cell? ⟨lb, lw + i * 4 + 3, none⟩ = some (.int .i64 m)) (by kernel_rfl) (S0) (fun hS => ?_)
                refine wpAnyH_take (i := 0) (oi := { dst := some 78, op := _, type := _, pos := _, after := _, guard := _ }) (v := ?_) rfl (by kernel_rfl) (by kernel_rfl) (by kernel_rfl) (fun _ _ _ h => h) (Or.inl ⟨by rfl, ?_⟩) (by assumption) ?_
                rotate_left
                · intro w hSw
                  try dsimp only at hSw
                  go_simp
                  try with_reducible rfl
                try simp only [Act.put, List.setIfInBounds_toArray, List.set_cons_zero, List.set_cons_succ]
                refine wpAnyH_take (i := 1) (oi := { dst := some 79, op := _, type := _, pos := _, after := _, guard := _ }) (v := ?_) rfl (by kernel_rfl) (by kernel_rfl) (by kernel_rfl) (fun _ _ _ h => h) (Or.inl ⟨by rfl, ?_⟩) (by assumption) ?_
                rotate_left
                · intro w hSw
                  try dsimp only at hSw
                  go_simp
                  try with_reducible rfl
                try simp only [Act.put, List.setIfInBounds_toArray, List.set_cons_zero, List.set_cons_succ]
                refine wpAnyH_take (i := 2) (oi := { dst := some 80, op := _, type := _, pos := _, after := _, guard := _ }) (v := ?_) rfl (by kernel_rfl) (by kernel_rfl) (by kernel_rfl) (fun _ _ _ h => h) (Or.inl ⟨by rfl, ?_⟩) (by assumption) ?_
                rotate_left
                · intro w hSw
                  try dsimp only at hSw
                  go_simp
                  try with_reducible rfl
                try simp only [Act.put, List.setIfInBounds_toArray, List.set_cons_zero, List.set_cons_succ]
                refine wpAnyH_take (i := 3) (oi := { dst := some 81, op := _, type := _, pos := _, after := _, guard := _ }) (v := ?_) rfl (by kernel_rfl) (by kernel_rfl) (by kernel_rfl) (fun _ _ _ h => h) (Or.inl ⟨by rfl, ?_⟩) (by assumption) ?_
                rotate_left
                · intro w hSw
                  try dsimp only at hSw
                  go_simp
                  try with_reducible rfl
                try simp only [Act.put, List.setIfInBounds_toArray, List.set_cons_zero, List.set_cons_succ]
                refine wpAnyH_take (i := 4) (oi := { dst := some 82, op := _, type := _, pos := _, after := _, guard := _ }) (v := ?_) rfl (by kernel_rfl) (by kernel_rfl) (by kernel_rfl) (fun _ _ _ h => h) (Or.inl ⟨by rfl, ?_⟩) (by assumption) ?_
                rotate_left
                · intro w hSw
                  try dsimp only at hSw
                  go_simp
                  try with_reducible rfl
                try simp only [Act.put, List.setIfInBounds_toArray, List.set_cons_zero, List.set_cons_succ]
                refine wpAnyH_take (i := 5) (oi := { dst := some 83, op := _, type := _, pos := _, after := _, guard := _ }) (v := ?_) rfl (by kernel_rfl) (by kernel_rfl) (by kernel_rfl) (fun _ _ _ h => h) (Or.inl ⟨by rfl, ?_⟩) (by assumption) ?_
                rotate_left
                · intro w hSw
                  try dsimp only at hSw
                  go_simp
                  try with_reducible rfl
                try simp only [Act.put, List.setIfInBounds_toArray, List.set_cons_zero, List.set_cons_succ]
                refine wpAnyH_take (i := 6) (oi := { dst := some 84, op := _, type := _, pos := _, after := _, guard := _ }) (v := ?_) rfl (by kernel_rfl) (by kernel_rfl) (by kernel_rfl) (fun _ _ _ h => h) (Or.inl ⟨by rfl, ?_⟩) (by assumption) ?_
                rotate_left
                · intro w hSw
                  try dsimp only at hSw
                  go_simp
                  try with_reducible rfl
                try simp only [Act.put, List.setIfInBounds_toArray, List.set_cons_zero, List.set_cons_succ]
                refine wpAnyH_take (i := 7) (oi := { dst := some 85, op := _, type := _, pos := _, after := _, guard := _ }) (v := ?_) rfl (by kernel_rfl) (by kernel_rfl) (by kernel_rfl) (fun _ _ _ h => h) (Or.inl ⟨by rfl, ?_⟩) (by assumption) ?_
                rotate_left
                · intro w hSw
                  try dsimp only at hSw
                  go_simp
                  try with_reducible rfl
                try simp only [Act.put, List.setIfInBounds_toArray, List.set_cons_zero, List.set_cons_succ]
                refine wpAnyH_take (i := 8) (oi := { dst := some 86, op := _, type := _, pos := _, after := _, guard := _ }) (v := ?_) rfl (by kernel_rfl) (by kernel_rfl) (by kernel_rfl) (fun _ _ _ h => h) (Or.inl ⟨by rfl, ?_⟩) (by assumption) ?_
                rotate_left
                · intro w hSw
                  try dsimp only at hSw
                  go_simp
                  try with_reducible rfl
                try simp only [Act.put, List.setIfInBounds_toArray, List.set_cons_zero, List.set_cons_succ]
                refine wpAnyH_take (i := 9) (oi := { dst := some 87, op := _, type := _, pos := _, after := _, guard := _ }) (v := ?_) rfl (by kernel_rfl) (by kernel_rfl) (by kernel_rfl) (fun _ _ _ h => h) (Or.inl ⟨by rfl, ?_⟩) (by assumption) ?_
                rotate_left
                · intro w hSw
                  try dsimp only at hSw
                  go_simp
                  try with_reducible rfl
                try simp only [Act.put, List.setIfInBounds_toArray, List.set_cons_zero, List.set_cons_succ]
                refine wpAnyH_take (i := 10) (oi := { dst := some 88, op := _, type := _, pos := _, after := _, guard := _ }) (v := ?_) rfl (by kernel_rfl) (by kernel_rfl) (by kernel_rfl) (fun _ _ _ h => h) (Or.inl ⟨by rfl, ?_⟩) (by assumption) ?_
                rotate_left
                · intro w hSw
                  try dsimp only at hSw
                  go_simp
                  try with_reducible rfl
                try simp only [Act.put, List.setIfInBounds_toArray, List.set_cons_zero, List.set_cons_succ]
                refine wpAnyH_take (i := 11) (oi := { dst := some 89, op := _, type := _, pos := _, after := _, guard := _ }) (v := ?_) rfl (by kernel_rfl) (by kernel_rfl) (by kernel_rfl) (fun _ _ _ h => h) (Or.inl ⟨by rfl, ?_⟩) (by assumption) ?_
                rotate_left
                · intro w hSw
                  try dsimp only at hSw
                  go_simp
                  try with_reducible rfl
                try simp only [Act.put, List.setIfInBounds_toArray, List.set_cons_zero, List.set_cons_succ]
                refine wpAnyH_take (i := 12) (oi := { dst := some 90, op := _, type := _, pos := _, after := _, guard := _ }) (v := ?_) rfl (by kernel_rfl) (by kernel_rfl) (by kernel_rfl) (fun _ _ _ h => h) (Or.inl ⟨by rfl, ?_⟩) (by assumption) ?_
                rotate_left
                · intro w hSw
                  try dsimp only at hSw
                  go_simp
                  try with_reducible rfl
                try simp only [Act.put, List.setIfInBounds_toArray, List.set_cons_zero, List.set_cons_succ]
                refine wpAnyH_ready (rs := [13]) (by kernel_rfl) (by simp) ?_
                refine AllReadyH.cons rfl (fun K hK => ?_) AllReadyH.nil
                go_simp
                refine (puse W b g most A3 A4 xu x m r4 _ HP.out hxu HR4.out).mono ?_
                rintro e v1 ⟨rfl, hp, hg⟩
                have HP := Lib.hid hp
                have HKx := Lib.hid (kbc_other HKx.out hg HGx.out)
                clear hp hg
                go_wp2_with fail
                refine hK.out _ _ ?_ (fun hHeld => ?_)
                · exact HSt.out _ HP.out.low HKx.out
                clear hK K
                try simp only [Act.put, List.setIfInBounds_toArray, List.set_cons_zero, List.set_cons_succ]
                refine wpAnyH_take (i := 14) (oi := { dst := some 92, op := _, type := _, pos := _, after := _, guard := _ }) (v := ?_) rfl (by kernel_rfl) (by kernel_rfl) (by kernel_rfl) (fun _ _ _ h => h) (Or.inl ⟨by rfl, ?_⟩) (by assumption) ?_
                rotate_left
                · intro w hSw
                  try dsimp only at hSw
                  go_simp
                  try with_reducible rfl
                try simp only [Act.put, List.setIfInBounds_toArray, List.set_cons_zero, List.set_cons_succ]
                refine wpAnyH_take (i := 15) (oi := { dst := some 93, op := _, type := _, pos := _, after := _, guard := _ }) (v := ?_) rfl (by kernel_rfl) (by kernel_rfl) (by kernel_rfl) (fun _ _ _ h => h) (Or.inl ⟨by rfl, ?_⟩) (by assumption) ?_
                rotate_left
                · intro w hSw
                  try dsimp only at hSw
                  go_simp
                  try with_reducible rfl
                try simp only [Act.put, List.setIfInBounds_toArray, List.set_cons_zero, List.set_cons_succ]
                refine wpAnyH_take (i := 16) (oi := { dst := some 94, op := _, type := _, pos := _, after := _, guard := _ }) (v := ?_) rfl (by kernel_rfl) (by kernel_rfl) (by kernel_rfl) (fun _ _ _ h => h) (Or.inl ⟨by rfl, ?_⟩) (by assumption) ?_
                rotate_left
                · intro w hSw
                  try dsimp only at hSw
                  go_simp
                  try with_reducible rfl
                try simp only [Act.put, List.setIfInBounds_toArray, List.set_cons_zero, List.set_cons_succ]
                refine wpAnyH_take (i := 17) (oi := { dst := some 95, op := _, type := _, pos := _, after := _, guard := _ }) (v := ?_) rfl (by kernel_rfl) (by kernel_rfl) (by kernel_rfl) (fun _ _ _ h => h) (Or.inl ⟨by rfl, ?_⟩) (by assumption) ?_
                rotate_left
                · intro w hSw
                  try dsimp only at hSw
                  go_simp
                  try with_reducible rfl
                try simp only [Act.put, List.setIfInBounds_toArray, List.set_cons_zero, List.set_cons_succ]
                refine wpAnyH_take (i := 18) (oi := { dst := some 96, op := _, type := _, pos := _, after := _, guard := _ }) (v := ?_) rfl (by kernel_rfl) (by kernel_rfl) (by kernel_rfl) (fun _ _ _ h => h) (Or.inl ⟨by rfl, ?_⟩) (by assumption) ?_
                rotate_left
                · intro w hSw
                  try dsimp only at hSw
                  go_simp
                  try with_reducible rfl
                try simp only [Act.put, List.setIfInBounds_toArray, List.set_cons_zero, List.set_cons_succ]
                refine wpAnyH_take (i := 19) (oi := { dst := some 97, op := _, type := _, pos := _, after := _, guard := _ }) (v := ?_) rfl (by kernel_rfl) (by kernel_rfl) (by kernel_rfl) (fun _ _ _ h => h) (Or.inl ⟨by rfl, ?_⟩) (by assumption) ?_
                rotate_left
                · intro w hSw
                  try dsimp only at hSw
                  go_simp
                  try with_reducible rfl
                try simp only [Act.put, List.setIfInBounds_toArray, List.set_cons_zero, List.set_cons_succ]
                refine wpAnyH_take (i := 20) (oi := { dst := some 98, op := _, type := _, pos := _, after := _, guard := _ }) (v := ?_) rfl (by kernel_rfl) (by kernel_rfl) (by kernel_rfl) (fun _ _ _ h => h) (Or.inl ⟨by rfl, ?_⟩) (by assumption) ?_
                rotate_left
                · intro w hSw
                  try dsimp only at hSw
                  go_simp
                  try with_reducible rfl
                try simp only [Act.put, List.setIfInBounds_toArray, List.set_cons_zero, List.set_cons_succ]
                refine wpAnyH_take (i := 21) (oi := { dst := some 99, op := _, type := _, pos := _, after := _, guard := _ }) (v := ?_) rfl (by kernel_rfl) (by kernel_rfl) (by kernel_rfl) (fun _ _ _ h => h) (Or.inl ⟨by rfl, ?_⟩) (by assumption) ?_
                rotate_left
                · intro w hSw
                  try dsimp only at hSw
                  go_simp
                  try with_reducible rfl
                try simp only [Act.put, List.setIfInBounds_toArray, List.set_cons_zero, List.set_cons_succ]
                refine wpAnyH_take (i := 22) (oi := { dst := some 100, op := _, type := _, pos := _, after := _, guard := _ }) (v := ?_) rfl (by kernel_rfl) (by kernel_rfl) (by kernel_rfl) (fun _ _ _ h => h) (Or.inl ⟨by rfl, ?_⟩) (by assumption) ?_
                rotate_left
                · intro w hSw
                  try dsimp only at hSw
                  go_simp
                  try with_reducible rfl
                try simp only [Act.put, List.setIfInBounds_toArray, List.set_cons_zero, List.set_cons_succ]
                refine wpAnyH_take (i := 23) (oi := { dst := some 101, op := _, type := _, pos := _, after := _, guard := _ }) (v := ?_) rfl (by kernel_rfl) (by kernel_rfl) (by kernel_rfl) (fun _ _ _ h => h) (Or.inl ⟨by rfl, ?_⟩) (by assumption) ?_
                rotate_left
                · intro w hSw
                  try dsimp only at hSw
                  go_simp
                  try with_reducible rfl
                try simp only [Act.put, List.setIfInBounds_toArray, List.set_cons_zero, List.set_cons_succ]
                refine wpAnyH_ready (rs := [24]) (by kernel_rfl) (by simp) ?_
                refine AllReadyH.cons rfl (fun K hK => ?_) AllReadyH.nil
                go_simp
                refine (pseen W b g most A4 xu m true _ HP.out hxu HS4.out).mono ?_
                rintro e v2 ⟨rfl, hp, hb⟩
                have HP := Lib.hid hp
                have HKx := Lib.hid (HKx.out.step hb)
                clear hp hb
                go_wp2_with fail
                refine hK.out _ _ ?_ (fun hHeld => ?_)
                · exact HSt.out _ HP.out.low HKx.out
                clear hK K
                try simp only [Act.put, List.setIfInBounds_toArray, List.set_cons_zero, List.set_cons_succ]
                refine wpAnyH_take (i := 25) (oi := { dst := some 103, op := _, type := _, pos := _, after := _, guard := _ }) (v := ?_) rfl (by kernel_rfl) (by kernel_rfl) (by kernel_rfl) (fun _ _ _ h => h) (Or.inl ⟨by rfl, ?_⟩) (by assumption) ?_
                rotate_left
                · intro w hSw
                  try dsimp only at hSw
                  go_simp
                  try with_reducible rfl
                try simp only [Act.put, List.setIfInBounds_toArray, List.set_cons_zero, List.set_cons_succ]
                refine wpAnyH_take (i := 26) (oi := { dst := some 104, op := _, type := _, pos := _, after := _, guard := _ }) (v := ?_) rfl (by kernel_rfl) (by kernel_rfl) (by kernel_rfl) (fun _ _ _ h => h) (Or.inl ⟨by rfl, ?_⟩) (by assumption) ?_
                rotate_left
                · intro w hSw
                  try dsimp only at hSw
                  go_simp
                  try with_reducible rfl
                try simp only [Act.put, List.setIfInBounds_toArray, List.set_cons_zero, List.set_cons_succ]
                refine wpAnyH_done (by kernel_rfl) ?_ _
                go_wp2_with fail
                go_roundw
                case rel => exact ⟨i + 1, A4, by omega, by go_num, HO4, HP, HKx⟩
                case measure => simp [intOf]; omega
              · have f1 : z ≤ y := by omega
                go_wp2_with fail
                refine (add0_k m y _ HY.out).mono ?_
                rintro e w' ⟨rfl, rfl⟩
                go_wp2_with fail
                go_roundw
                case rel => exact ⟨i + 1, A, by omega, by go_num, HO, HP, HKx⟩
                case measure => simp [intOf]; omega
            · obtain rfl : i = ll.length := by omega
              obtain ⟨b0, b1, b2, b3⟩ := HXc.out _ HKx.out
              have hzs : limI z = z := by unfold limI; omega
              have hz1s : limI (z - 1) = z - 1 := by unfold limI; omega
              have E1 : Hid (decide (limI z < atA A xu) = false) := Lib.hid (decide_eq_false (by rw [olO_at HO.out, hzs]; omega))
              have E2 : Hid (useP most A xu (limI z) (limI (z - 1)) = (18, A)) := Lib.hid (use_replay HW.out HO.out (by rw [hz1s]; omega) (by rw [hz1s, hzs]; omega))
              have f0 : (z == 0) = false := beq0 (by omega)
              have w1 : IntKind.i64.wrap (z - 1) = z - 1 := IntWalk.i64_in _ (by omega)
              clear hzs hz1s
              go_wp2_with fail
              refine (pseen W b g most A xu z false _ HP.out hxu E1.out).mono ?_
              rintro e w6 ⟨rfl, hp, hb⟩
              have HP := Lib.hid hp
              have HKx := Lib.hid (HKx.out.step hb)
              clear hp hb b0 b1 b2 b3
              obtain ⟨b0, b1, b2, b3⟩ := HXc.out _ HKx.out
              go_wp2_with fail
              refine (puse W b g most A A xu z (z - 1) 18 _ HP.out hxu E2.out).mono ?_
              rintro e w7 ⟨rfl, hp, hg⟩
              have HP := Lib.hid hp
              clear hp hg b0 b1 b2 b3
              go_wp2_with fail
              refine (alive_s _).mono ?_
              rintro e w9 ⟨rfl, hb⟩
              have HB := Lib.hid (HP.out.low.trans (hb.mono HP.out.low.size))
              clear hb
              go_wp2_with fail
              go_ret
              exact ⟨rfl, HB.out⟩
        · have f1 := bne0 hr0
          clear hr
          go_wp2_with fail
          refine (alive_s _).mono ?_
          rintro e w9 ⟨rfl, hb⟩
          have HB := Lib.hid (HP.out.low.trans (hb.mono HP.out.low.size))
          clear hb
          go_wp2_with fail
          go_ret
          exact ⟨rfl, HB.out⟩
      · go_enter Try.func4, Try.ntmps4
        go_wp2_with fail
        refine (HFw.out _ HBx.out).mono ?_
        rintro e w1 ⟨rfl, rfl⟩
        go_wp2_with fail
        refine (new_bad most _ hk).mono ?_
        rintro e w1 ⟨rfl, rfl⟩
        go_wp2_with fail
        refine (alive_s _).mono ?_
        rintro e w9 ⟨rfl, hb⟩
        have HB := Lib.hid (HBx.out.trans (hb.mono HBx.out.size))
        clear hb
        go_wp2_with fail
        go_ret
        exact ⟨rfl, HB.out⟩

theorem losingle_types : ∀ t ∈ [3, 22, 33], Try.prog.readableRec t = true ∧ t < Try.prog.types.size := by
  have h : ([3, 22, 33].all fun t => Try.prog.readableRec t && decide (t < Try.prog.types.size)) = true := by kernel_rfl
  intro t ht
  have := List.all_eq_true.1 h t ht
  simpa using this

set_option maxRecDepth 100000 in
theorem losingle_contract (H : Type) (enc : TypeId × Value → H) (W : World) (base : Nat) (args : Array Value) (ds gs : List (DataW H)) (before : List MemPlace)
    (hval : ∀ (j : Nat) t v, Try.f4.params[j]? = some t → args[j]? = some v → Value.okWide Try.prog W .any base t v)
    (hW : DataW.Whole enc Try.prog Try.f4.params.toList Rows.onceSingleSpec.vars false W args.toList ds gs before) (hsh : W.ShapedOpen Try.prog) :
    Calls Try.prog 4 args W fun e W' => ∃ v, e = .returned v ∧ Rows.onceSingleSpec.post enc Try.prog Try.f4 false true false false W args v W' := by
  have hW' := hW
  obtain ⟨p, q, hA0, hV, rfl, hfz, hnd⟩ := hW
  have hA : DataW.TrodAll enc Try.prog W 0 (fun _ => true) true Try.f4.params.toList args.toList ds p := hA0
  obtain ⟨rfl, rfl⟩ := trodVars_none hV
  simp only [List.append_nil] at hW'
  have hlt : ∀ x ∈ p, x.block < W.heap.size := fun x hx => by simpa using hW'.lt x hx
  have fin : ∀ W', Below W.heap.size W W' → DataW.TrodAll enc Try.prog W' 0 (fun b => decide (b < W.heap.size)) true [3, 22, 33] args.toList ds p := fun W' hb => by
    rw [Try.params4] at hA
    exact trodAll_below hb _ _ _ _ losingle_types hA hlt
  clear hA0
  rw [Try.params4] at hA hval
  obtain ⟨v0, vs0, d0, ds0, p0, q0, hargs, rfl, hp0, h0, r0⟩ := trodAll_cons hA
  obtain ⟨v1, vs1, d1, ds1, p1, q1, rfl, rfl, hp1, h1, r1⟩ := trodAll_cons r0
  obtain ⟨v2, vs2, d2, ds2, p2, q2, rfl, rfl, hp2, h2, r2⟩ := trodAll_cons r1
  obtain ⟨rfl, rfl, rfl⟩ := trodAll_nil r2
  obtain rfl : args = #[v0, v1, v2] := by cases args; simp_all
  obtain ⟨most, rfl, rfl, rfl, hs0⟩ := open_int Try.underlying3 (hval 0 3 v0 rfl rfl) h0
  obtain ⟨l, ln, lc, ll, rfl, hs1, _⟩ := open_ocs (hval 1 22 v1 rfl rfl) h1
  obtain ⟨x, rfl, hs2⟩ := open_oc (hval 2 33 v2 rfl rfl) h2
  refine (losingle_s most l ln lc ll x W (int_range hs0) hs1 hs2).mono fun e W' ⟨he, hb⟩ => ?_
  subst he
  exact ⟨_, rfl, _, _, _, [], p, [], hW', trodAll_mk1 (shut_bool Try.underlying4 _), fin W' hb, rfl, hb.frame _, fun h => by cases h⟩

set_option maxRecDepth 100000 in
theorem losingle_lifted (os : Os) (started : os.Started) (H : Type) (enc : TypeId × Value → H) :
    ReturnsInHanded {} Try.checked os 4 .any (Rows.onceSingleSpec.pre6 enc Try.prog Try.f4 Rows.onceSingleRow.domain false) (Rows.onceSingleSpec.post enc Try.prog Try.f4 false true false false) := by
  refine returnsInHanded_of_change_shaped (C := Try.checked) own started (by kernel_rfl) Try.func4
    (ChangeSpec.witness6 (enc := enc) (C := Try.checked) false ⟨#[], #[.int .i64 0, .slice none 0 0, .agg #[.int .i64 0, .string ⟨#[]⟩, .int .i64 0, .int .i64 0]], []⟩ 8 (by kernel_rfl) (by kernel_rfl) (by kernel_rfl) (by kernel_rfl)) ?_
  intro W base args ds gs before hval hW _ _ hsh _
  exact losingle_contract H enc W base args ds gs before hval hW hsh

set_option maxRecDepth 100000 in
/-- THE STATEMENT -/
theorem losingle_said : Rows.OnceSingleSaid :=
  OpenClaim.holds_of_wide 4 Try.f4 rfl rfl rfl rfl rfl rfl rfl ⟨rfl, rfl, rfl, rfl, rfl⟩ rfl rfl rfl rfl rfl (by kernel_rfl) Try.func4 (by kernel_rfl)
    (of_decide_eq_true (by kernel_rfl)) (by unfold Func.isWrapper; first | (rw [if_pos (by decide +kernel)]; kernel_rfl) | (rw [if_neg (by decide +kernel)]; exact ⟨rfl, rfl⟩))
    (fun os started H enc _ => losingle_lifted os started H enc)
end Go.Proofs.Yteoaekjhicphlaa
