/-
  Proved: identitylaw27.OncePurges returns true for all arguments. No condition beyond the row's own.
-/
import Derived.Test.YteoaekjhicphlaaOncV
import Derived.Deep.RegionHeld3
set_option linter.unusedVariables false
set_option linter.unusedSimpArgs false
set_option linter.unnecessarySimpa false
namespace Go.Proofs.Yteoaekjhicphlaa
open Go.ChangeShapes Go.WideShapes Go.ChangeAt Go.RowKit Go.PlainAid
open Go.ChangeMaps (open_string shut_string)

theorem kbc_other {w w' : World} {k g : Nat} {o : Obj} (h : KbC w k o) (hg : w.grownBy w' (some g)) (hne : k ≠ g) : KbC w' k o := (hg.block k h.big (fun e => hne (by injection e))).trans h
theorem Pl.other {W w V : World} {b g g' : Nat} {most : Int} {A : Ol} (h : Pl W b g most A w) (hg : w.grownBy V (some g')) (h1 : b ≠ g') (h2 : g ≠ g') (h3 : W.heap.size ≤ g') : Pl W b g most A V :=
  ⟨h.ox.keep (hg.block b h.ox.big.1 (fun e => h1 (by injection e))) (hg.block g h.ox.big.2 (fun e => h2 (by injection e))), h.lb, h.lg,
    h.low.trans ⟨hg.os, hg.tape, hg.output, hg.size, fun k hk => hg.block k (Nat.lt_of_lt_of_le hk h.low.size) (fun e => by injection e with e; omega)⟩⟩
/-- two registers of the program, and a box -/
structure P2 (W : World) (b g b2 g2 : Nat) (most : Int) (A B : Ol) (k : Nat) (o : Obj) (w : World) : Prop where
  l : Pl W b g most A w
  r : Pl W b2 g2 most B w
  kx : KbC w k o
  n1 : b2 ≠ g
  n2 : g2 ≠ g
  n3 : b ≠ g2
  n4 : k ≠ g
  n5 : k ≠ g2
section
variable {W w V : World} {b g b2 g2 k : Nat} {most : Int} {A B A' : Ol} {o : Obj}
theorem P2.step (h : P2 W b g b2 g2 most A B k o w) (hb : Below w.heap.size w V) : P2 W b g b2 g2 most A B k o V := ⟨h.l.step hb, h.r.step hb, h.kx.step hb, h.n1, h.n2, h.n3, h.n4, h.n5⟩
theorem P2.left (h : P2 W b g b2 g2 most A B k o w) (hp : Pl W b g most A' V) (hg : w.grownBy V (some g)) : P2 W b g b2 g2 most A' B k o V :=
  ⟨hp, h.r.other hg h.n1 h.n2 h.l.lg, kbc_other h.kx hg h.n4, h.n1, h.n2, h.n3, h.n4, h.n5⟩
theorem P2.right (h : P2 W b g b2 g2 most A B k o w) (hp : Pl W b2 g2 most A' V) (hg : w.grownBy V (some g2)) : P2 W b g b2 g2 most A A' k o V :=
  ⟨h.l.other hg h.n3 (fun e => h.n2 e.symm) h.r.lg, hp, kbc_other h.kx hg h.n5, h.n1, h.n2, h.n3, h.n4, h.n5⟩
end
theorem beq_n (n : Nat) : (((n : Nat) : Int) != ((n : Nat) : Int)) = false := bne_self_eq_false _
theorem dec_iff {p q : Prop} [Decidable p] [Decidable q] (h : p ↔ q) {v : Bool} (e : decide q = v) : decide p = v := by rw [← e]; exact decide_eq_decide.2 h
set_option maxRecDepth 100000 in
set_option maxHeartbeats 16000000 in
theorem lopurges_s (most : Int) (l : Option Addr) (ln lc : Nat) (ll : List Oc) (x : Oc) (W : World) (Mmost : -9223372036854775808 ≤ most ∧ most ≤ 9223372036854775807) (Ml : OcsAt W l ln lc ll) (Mx : InOc x) :
    Calls Try.prog 5 #[.int .i64 most, .slice l ln lc, ocV x] W fun e w' => e = .returned (.bool true) ∧ Below W.heap.size W w' := by
  have HL := Lib.hid Ml
  have hln := Ml.1
  have hl2 := Ml.2.1
  have hl3 := Ml.2.2.1
  subst hln
  unfold maxLen at hl3
  obtain ⟨xk, xu, xx, xm⟩ := x
  obtain ⟨_, mxu, _, _⟩ := Mx
  dsimp only at mxu
  unfold maxLen at mxu
  show Calls Try.prog 5 #[.int .i64 most, .slice l ll.length lc, .agg #[.int .i64 xk, .string xu, .int .i64 xx, .int .i64 xm]] W _
  have HBx := Lib.hid (box_below W (ocO xk xu xx xm))
  have HKx := Lib.hid (kbc_new W (ocO xk xu xx xm))
  have hxb : W.heap.size < (W.alloc (ocO xk xu xx xm)).heap.size := by simp
  obtain ⟨W1, hW1⟩ : ∃ W1, W.alloc (ocO xk xu xx xm) = W1 := ⟨_, rfl⟩
  rw [hW1] at HBx HKx hxb
  have HXc : Hid (∀ V, KbC V W.heap.size (ocO xk xu xx xm) → V.cell? ⟨W.heap.size, 0, none⟩ = some (.int .i64 xk) ∧ V.cell? ⟨W.heap.size, 1, none⟩ = some (.string xu) ∧ V.cell? ⟨W.heap.size, 2, none⟩ = some (.int .i64 xx) ∧ V.cell? ⟨W.heap.size, 3, none⟩ = some (.int .i64 xm)) := Lib.hid fun V h => h.oc
  unfold ocO at hW1
  obtain ⟨b0, b1, b2', b3⟩ := HXc.out _ HKx.out
  obtain ⟨gf, hg⟩ : ∃ gf, fewB ll = gf := ⟨_, rfl⟩
  have HFw := Lib.hid (fun V hV => few_k l ll.length lc ll gf V (HL.out.below hV) hg)
  clear Mmost Ml
  cases gf with
  | false =>
    clear hg
    go_enter Try.func5, Try.ntmps5
    go_wp2_with fail
    refine (HFw.out _ HBx.out).mono ?_
    rintro e w1 ⟨rfl, rfl⟩
    go_wp2_with fail
    refine (alive_s _).mono ?_
    rintro e w9 ⟨rfl, hb⟩
    have HB := Lib.hid (HBx.out.trans (hb.mono HBx.out.size))
    clear hb
    go_wp2_with fail
    go_ret
    exact ⟨rfl, HB.out⟩
  | true =>
    obtain ⟨hl30, hsz⟩ := fewB_out hg
    have HZ := Lib.hid hsz
    clear hg hsz
    by_cases hxl : 100 < xu.size
    · have d1 : (100 : Int) < (xu.size : Int) := by omega
      go_enter Try.func5, Try.ntmps5
      go_wp2_with fail
      refine (HFw.out _ HBx.out).mono ?_
      rintro e w1 ⟨rfl, rfl⟩
      go_wp2_with fail
      refine (alive_s _).mono ?_
      rintro e w9 ⟨rfl, hb⟩
      have HB := Lib.hid (HBx.out.trans (hb.mono HBx.out.size))
      clear hb
      go_wp2_with fail
      go_ret
      exact ⟨rfl, HB.out⟩
    · have d1 : ¬ (100 : Int) < (xu.size : Int) := by omega
      have hxu : xu.size ≤ 1000000000 := by omega
      by_cases hk : 1 ≤ most ∧ most ≤ 256
      · obtain ⟨m0, m1⟩ := hk
        go_enter Try.func5, Try.ntmps5
        go_wp2_with fail
        refine (HFw.out _ HBx.out).mono ?_
        rintro e w1 ⟨rfl, rfl⟩
        go_wp2_with fail
        refine (pnew most W _ HBx.out m0 m1).mono ?_
        rintro e w2 ⟨b, rfl, g, hp, hb2, hbx, hgx⟩
        have HP1 := Lib.hid hp
        have HKx := Lib.hid (HKx.out.step hb2)
        have HG1 : Hid (W.heap.size ≠ g) := Lib.hid (by omega)
        clear hp hb2 hbx hgx b0 b1 b2' b3
        go_wp2_with fail
        refine (pnew most W _ HP1.out.low m0 m1).mono ?_
        rintro e w3 ⟨b2, rfl, g2, hp, hb2, hbx, hgx⟩
        have HP : Hid (P2 W b g b2 g2 most [] [] W.heap.size (ocO xk xu xx xm) w3) := Lib.hid (by
          have h1 := HP1.out.ox.big
          have h2 := HKx.out.big
          exact ⟨HP1.out.step hb2, hp, HKx.out.step hb2, by omega, by omega, by omega, HG1.out, by omega⟩)
        clear hp hb2 hbx hgx HP1 HKx HG1
        go_wp2_with fail
        refine (play_k W b g most [] l ll.length lc ll _ HP.out.l HL.out HZ.out (by omega)).mono ?_
        rintro e w4 ⟨rfl, hp, hg⟩
        obtain ⟨A, hA⟩ : ∃ A, plA most [] ll = A := ⟨_, rfl⟩
        rw [hA] at hp
        have HP := Lib.hid (HP.out.left hp hg)
        clear hp hg
        go_wp2_with fail
        refine (play_k W b2 g2 most [] l ll.length lc ll _ HP.out.r HL.out HZ.out (by omega)).mono ?_
        rintro e w5 ⟨rfl, hp, hg⟩
        rw [hA] at hp
        have HP := Lib.hid (HP.out.right hp hg)
        clear hp hg hA
        obtain ⟨y, hy⟩ : ∃ y, limI xm = y := ⟨_, rfl⟩
        have HY := Lib.hid hy
        have hyb := limI_bd xm
        rw [hy] at hyb
        obtain ⟨B, hB⟩ : ∃ B, purA A (limI xm) = B := ⟨_, rfl⟩
        have HBp := Lib.hid hB
        have HBB : Hid (purA B (limI xm) = B) := Lib.hid (by rw [← hB]; exact pur_pur _ _)
        obtain ⟨na, hna⟩ : ∃ na, A.length = na := ⟨_, rfl⟩
        obtain ⟨nb, hnb⟩ : ∃ nb, B.length = nb := ⟨_, rfl⟩
        have HNA := Lib.hid hna
        have HNB := Lib.hid hnb
        have hle : nb ≤ na := by rw [← hna, ← hnb, ← hB]; exact purA_le _ _
        obtain ⟨k, hk⟩ : ∃ k : Int, (A.length : Int) - (B.length : Int) = k := ⟨_, rfl⟩
        have HKK := Lib.hid hk
        have hnl : na ≤ 256 := by have := HP.out.l.ox.ok.len; rw [hna] at this; omega
        have w1 : IntKind.i64.wrap ((na : Int) - k) = (nb : Int) := by
          rw [hna, hnb] at hk
          rw [← hk, IntWalk.i64_in _ (by omega)]; omega
        have k0 : ¬ k < 0 := by
          rw [hna, hnb] at hk
          omega
        have fa := beq_n na
        have fb := beq_n nb
        have HSe := Lib.hid (fun u => atA_pur HP.out.l.ox.ok.nod (limI xm) u (limI_bd xm).1)
        have HUp := Lib.hid (use_pur HP.out.l.ox.ok xu (limI xx) (limI xm) (limI_bd xm).1)
        rw [hB] at HSe HUp
        clear hy hB hna hnb hk
        obtain ⟨b0, b1, b2', b3⟩ := HXc.out _ HP.out.kx
        go_wp2_with fail
        refine (plen W b g most A na _ HP.out.l HNA.out).mono ?_
        rintro e w' ⟨rfl, rfl⟩
        go_wp2_with fail
        refine (ppurge W b g most A B xm k _ HP.out.l HBp.out HKK.out).mono ?_
        rintro e w6 ⟨rfl, hp, hg⟩
        have HP := Lib.hid (HP.out.left hp hg)
        clear hp hg b0 b1 b2' b3
        obtain ⟨b0, b1, b2', b3⟩ := HXc.out _ HP.out.kx
        go_wp2_with fail
        refine (plen W b g most B nb _ HP.out.l HNB.out).mono ?_
        rintro e w' ⟨rfl, rfl⟩
        go_wp2_with fail
        refine (ppurge W b g most B B xm 0 _ HP.out.l HBB.out (Int.sub_self _)).mono ?_
        rintro e w7 ⟨rfl, hp, hg⟩
        have HP := Lib.hid (HP.out.left hp hg)
        clear hp hg b0 b1 b2' b3
        go_wp2_with fail
        refine (plen W b2 g2 most A na _ HP.out.r HNA.out).mono ?_
        rintro e w' ⟨rfl, rfl⟩
        go_wp2_with fail
        go_loopw [13] (fun iv wr => ∃ (i : Nat), i ≤ ll.length ∧ iv = .int .i64 i ∧ Hid (P2 W b g b2 g2 most B A W.heap.size (ocO xk xu xx xm) wr)) (fun iv _ => ll.length - (intOf iv).toNat)
        case atStart => exact ⟨0, Nat.zero_le _, rfl, HP⟩
        case round =>
          clear HP
          obtain ⟨i, hi, rfl, HP⟩ := hrel
          by_cases hlt : i < ll.length
          · have di : (i : Int) < (ll.length : Int) := by omega
            obtain ⟨lb, lw, hla, _⟩ := HL.out.2.2.2.1 (by omega)
            subst hla
            have hu := HZ.out i hlt
            obtain ⟨⟨q, u, x, m⟩, hc⟩ : ∃ c, ocA ll i = c := ⟨_, rfl⟩
            have HCs := Lib.hid (fun V (hV : Below W.heap.size W V) => HL.out.cells hlt hc hV)
            rw [hc] at hu
            dsimp only at hu
            clear hc
            have hu : u.size ≤ 1000000000 := Nat.le_trans hu (by decide)
            obtain ⟨v, hv⟩ : ∃ v, decide (limI xm < atA A u) = v := ⟨_, rfl⟩
            have HV := Lib.hid hv
            have HV2 := Lib.hid (dec_iff (HSe.out u) hv)
            have fv : ((v : Bool) != v) = false := bne_self_eq_false _
            clear hv
            go_wp2_with fail
            have HP := Lib.hid (HP.out.step (Below.refl _ _).drew)
            have HSt : Hid (∀ V, Below W.heap.size W V → KbC V W.heap.size (ocO xk xu xx xm) → V.cell? ⟨W.heap.size, 3, none⟩ = some (.int .i64 xm) ∧ V.cell? ⟨lb, lw + i * 4 + 1, none⟩ = some (.string u)) :=
              Lib.hid fun V hV hk => ⟨(HXc.out V hk).2.2.2, (HCs.out V hV).2.1⟩
            have S0 := HSt.out _ HP.out.l.low HP.out.kx
            refine wp_region_held_drew (S := fun V => V.cell? ⟨W.heap.size, 3, none⟩ = some (.int .i64 xm) ∧ V.cell? ⟨lb, lw + i * 4 + 1, none⟩ = some (.string u)) (by kernel_rfl) (S0) (fun hS => ?_)
            refine wpAnyH_take (i := 0) (oi := { dst := some 101, op := _, type := _, pos := _, after := _, guard := _ }) (v := ?_) rfl (by kernel_rfl) (by kernel_rfl) (by kernel_rfl) (fun _ _ _ h => h) (Or.inl ⟨by rfl, ?_⟩) (by assumption) ?_
            rotate_left
            · intro w hSw
              try dsimp only at hSw
              go_simp
              try with_reducible rfl
            try simp only [Act.put, List.setIfInBounds_toArray, List.set_cons_zero, List.set_cons_succ]
            refine wpAnyH_take (i := 1) (oi := { dst := some 102, op := _, type := _, pos := _, after := _, guard := _ }) (v := ?_) rfl (by kernel_rfl) (by kernel_rfl) (by kernel_rfl) (fun _ _ _ h => h) (Or.inl ⟨by rfl, ?_⟩) (by assumption) ?_
            rotate_left
            · intro w hSw
              try dsimp only at hSw
              go_simp
              try with_reducible rfl
            try simp only [Act.put, List.setIfInBounds_toArray, List.set_cons_zero, List.set_cons_succ]
            refine wpAnyH_take (i := 2) (oi := { dst := some 103, op := _, type := _, pos := _, after := _, guard := _ }) (v := ?_) rfl (by kernel_rfl) (by kernel_rfl) (by kernel_rfl) (fun _ _ _ h => h) (Or.inl ⟨by rfl, ?_⟩) (by assumption) ?_
            rotate_left
            · intro w hSw
              try dsimp only at hSw
              go_simp
              try with_reducible rfl
            try simp only [Act.put, List.setIfInBounds_toArray, List.set_cons_zero, List.set_cons_succ]
            refine wpAnyH_take (i := 3) (oi := { dst := some 104, op := _, type := _, pos := _, after := _, guard := _ }) (v := ?_) rfl (by kernel_rfl) (by kernel_rfl) (by kernel_rfl) (fun _ _ _ h => h) (Or.inl ⟨by rfl, ?_⟩) (by assumption) ?_
            rotate_left
            · intro w hSw
              try dsimp only at hSw
              go_simp
              try with_reducible rfl
            try simp only [Act.put, List.setIfInBounds_toArray, List.set_cons_zero, List.set_cons_succ]
            refine wpAnyH_take (i := 4) (oi := { dst := some 105, op := _, type := _, pos := _, after := _, guard := _ }) (v := ?_) rfl (by kernel_rfl) (by kernel_rfl) (by kernel_rfl) (fun _ _ _ h => h) (Or.inl ⟨by rfl, ?_⟩) (by assumption) ?_
            rotate_left
            · intro w hSw
              try dsimp only at hSw
              go_simp
              try with_reducible rfl
            try simp only [Act.put, List.setIfInBounds_toArray, List.set_cons_zero, List.set_cons_succ]
            refine wpAnyH_take (i := 5) (oi := { dst := some 106, op := _, type := _, pos := _, after := _, guard := _ }) (v := ?_) rfl (by kernel_rfl) (by kernel_rfl) (by kernel_rfl) (fun _ _ _ h => h) (Or.inl ⟨by rfl, ?_⟩) (by assumption) ?_
            rotate_left
            · intro w hSw
              try dsimp only at hSw
              go_simp
              try with_reducible rfl
            try simp only [Act.put, List.setIfInBounds_toArray, List.set_cons_zero, List.set_cons_succ]
            refine wpAnyH_take (i := 6) (oi := { dst := some 107, op := _, type := _, pos := _, after := _, guard := _ }) (v := ?_) rfl (by kernel_rfl) (by kernel_rfl) (by kernel_rfl) (fun _ _ _ h => h) (Or.inl ⟨by rfl, ?_⟩) (by assumption) ?_
            rotate_left
            · intro w hSw
              try dsimp only at hSw
              go_simp
              try with_reducible rfl
            try simp only [Act.put, List.setIfInBounds_toArray, List.set_cons_zero, List.set_cons_succ]
            refine wpAnyH_take (i := 7) (oi := { dst := some 108, op := _, type := _, pos := _, after := _, guard := _ }) (v := ?_) rfl (by kernel_rfl) (by kernel_rfl) (by kernel_rfl) (fun _ _ _ h => h) (Or.inl ⟨by rfl, ?_⟩) (by assumption) ?_
            rotate_left
            · intro w hSw
              try dsimp only at hSw
              go_simp
              try with_reducible rfl
            try simp only [Act.put, List.setIfInBounds_toArray, List.set_cons_zero, List.set_cons_succ]
            refine wpAnyH_take (i := 9) (oi := { dst := some 110, op := _, type := _, pos := _, after := _, guard := _ }) (v := ?_) rfl (by kernel_rfl) (by kernel_rfl) (by kernel_rfl) (fun _ _ _ h => h) (Or.inl ⟨by rfl, ?_⟩) (by assumption) ?_
            rotate_left
            · intro w hSw
              try dsimp only at hSw
              go_simp
              try with_reducible rfl
            try simp only [Act.put, List.setIfInBounds_toArray, List.set_cons_zero, List.set_cons_succ]
            refine wpAnyH_take (i := 10) (oi := { dst := some 111, op := _, type := _, pos := _, after := _, guard := _ }) (v := ?_) rfl (by kernel_rfl) (by kernel_rfl) (by kernel_rfl) (fun _ _ _ h => h) (Or.inl ⟨by rfl, ?_⟩) (by assumption) ?_
            rotate_left
            · intro w hSw
              try dsimp only at hSw
              go_simp
              try with_reducible rfl
            try simp only [Act.put, List.setIfInBounds_toArray, List.set_cons_zero, List.set_cons_succ]
            refine wpAnyH_take (i := 11) (oi := { dst := some 112, op := _, type := _, pos := _, after := _, guard := _ }) (v := ?_) rfl (by kernel_rfl) (by kernel_rfl) (by kernel_rfl) (fun _ _ _ h => h) (Or.inl ⟨by rfl, ?_⟩) (by assumption) ?_
            rotate_left
            · intro w hSw
              try dsimp only at hSw
              go_simp
              try with_reducible rfl
            try simp only [Act.put, List.setIfInBounds_toArray, List.set_cons_zero, List.set_cons_succ]
            refine wpAnyH_take (i := 12) (oi := { dst := some 113, op := _, type := _, pos := _, after := _, guard := _ }) (v := ?_) rfl (by kernel_rfl) (by kernel_rfl) (by kernel_rfl) (fun _ _ _ h => h) (Or.inl ⟨by rfl, ?_⟩) (by assumption) ?_
            rotate_left
            · intro w hSw
              try dsimp only at hSw
              go_simp
              try with_reducible rfl
            try simp only [Act.put, List.setIfInBounds_toArray, List.set_cons_zero, List.set_cons_succ]
            refine wpAnyH_take (i := 13) (oi := { dst := some 114, op := _, type := _, pos := _, after := _, guard := _ }) (v := ?_) rfl (by kernel_rfl) (by kernel_rfl) (by kernel_rfl) (fun _ _ _ h => h) (Or.inl ⟨by rfl, ?_⟩) (by assumption) ?_
            rotate_left
            · intro w hSw
              try dsimp only at hSw
              go_simp
              try with_reducible rfl
            try simp only [Act.put, List.setIfInBounds_toArray, List.set_cons_zero, List.set_cons_succ]
            refine wpAnyH_take (i := 14) (oi := { dst := some 115, op := _, type := _, pos := _, after := _, guard := _ }) (v := ?_) rfl (by kernel_rfl) (by kernel_rfl) (by kernel_rfl) (fun _ _ _ h => h) (Or.inl ⟨by rfl, ?_⟩) (by assumption) ?_
            rotate_left
            · intro w hSw
              try dsimp only at hSw
              go_simp
              try with_reducible rfl
            try simp only [Act.put, List.setIfInBounds_toArray, List.set_cons_zero, List.set_cons_succ]
            refine wpAnyH_take (i := 15) (oi := { dst := some 116, op := _, type := _, pos := _, after := _, guard := _ }) (v := ?_) rfl (by kernel_rfl) (by kernel_rfl) (by kernel_rfl) (fun _ _ _ h => h) (Or.inl ⟨by rfl, ?_⟩) (by assumption) ?_
            rotate_left
            · intro w hSw
              try dsimp only at hSw
              go_simp
              try with_reducible rfl
            try simp only [Act.put, List.setIfInBounds_toArray, List.set_cons_zero, List.set_cons_succ]
            refine wpAnyH_take (i := 16) (oi := { dst := some 117, op := _, type := _, pos := _, after := _, guard := _ }) (v := ?_) rfl (by kernel_rfl) (by kernel_rfl) (by kernel_rfl) (fun _ _ _ h => h) (Or.inl ⟨by rfl, ?_⟩) (by assumption) ?_
            rotate_left
            · intro w hSw
              try dsimp only at hSw
              go_simp
              try with_reducible rfl
            try simp only [Act.put, List.setIfInBounds_toArray, List.set_cons_zero, List.set_cons_succ]
            refine wpAnyH_ready (rs := [8]) (by kernel_rfl) (by simp) ?_
            refine AllReadyH.cons rfl (fun K hK => ?_) AllReadyH.nil
            go_simp
            refine (pseen W b g most B u xm v _ HP.out.l hu HV2.out).mono ?_
            rintro e v1 ⟨rfl, _, hb⟩
            have HP := Lib.hid (HP.out.step hb)
            clear hb
            go_wp2_with fail
            refine hK.out _ _ ?_ (fun hHeld => ?_)
            · exact HSt.out _ HP.out.l.low HP.out.kx
            clear hK K
            try simp only [Act.put, List.setIfInBounds_toArray, List.set_cons_zero, List.set_cons_succ]
            refine wpAnyH_ready (rs := [17]) (by kernel_rfl) (by simp) ?_
            refine AllReadyH.cons rfl (fun K hK => ?_) AllReadyH.nil
            go_simp
            refine (pseen W b2 g2 most A u xm v _ HP.out.r hu HV.out).mono ?_
            rintro e v2 ⟨rfl, _, hb⟩
            have HP := Lib.hid (HP.out.step hb)
            clear hb
            go_wp2_with fail
            refine hK.out _ _ ?_ (fun hHeld => ?_)
            · exact HSt.out _ HP.out.l.low HP.out.kx
            clear hK K
            try simp only [Act.put, List.setIfInBounds_toArray, List.set_cons_zero, List.set_cons_succ]
            refine wpAnyH_take (i := 18) (oi := { dst := some 119, op := _, type := _, pos := _, after := _, guard := _ }) (v := ?_) rfl (by kernel_rfl) (by kernel_rfl) (by kernel_rfl) (fun _ _ _ h => h) (Or.inl ⟨by rfl, ?_⟩) (by assumption) ?_
            rotate_left
            · intro w hSw
              try dsimp only at hSw
              go_simp
              try with_reducible rfl
            try simp only [Act.put, List.setIfInBounds_toArray, List.set_cons_zero, List.set_cons_succ]
            refine wpAnyH_done (by kernel_rfl) ?_ _
            go_wp2_with fail
            go_roundw
            case rel => exact ⟨i + 1, by omega, by go_num, HP⟩
            case measure => simp [intOf]; omega
          · obtain rfl : i = ll.length := by omega
            obtain ⟨⟨r1, A1⟩, hr1⟩ : ∃ z, useP most A xu (limI xx) (limI xm) = z := ⟨_, rfl⟩
            obtain ⟨⟨r2, B1⟩, hr2⟩ : ∃ z, useP most B xu (limI xx) (limI xm) = z := ⟨_, rfl⟩
            have hup := HUp.out
            rw [hr1, hr2] at hup
            dsimp only at hup
            obtain ⟨rfl, hup2⟩ := hup
            have HR1 := Lib.hid hr1
            have HR2 := Lib.hid hr2
            obtain ⟨v, hv⟩ : ∃ v, decide (limI xm < atA A1 xu) = v := ⟨_, rfl⟩
            have HV := Lib.hid hv
            have HV2 := Lib.hid (dec_iff hup2 hv)
            have fr : (r2 == r2) = true := beq_self_eq_true _
            have fv : ((v : Bool) == v) = true := beq_self_eq_true _
            clear hv hup2 hr1 hr2
            go_wp2_with fail
            have HP := Lib.hid (HP.out.step (Below.refl _ _).drew)
            have HSt : Hid (∀ V, KbC V W.heap.size (ocO xk xu xx xm) → V.cell? ⟨W.heap.size, 1, none⟩ = some (.string xu) ∧ V.cell? ⟨W.heap.size, 2, none⟩ = some (.int .i64 xx) ∧ V.cell? ⟨W.heap.size, 3, none⟩ = some (.int .i64 xm)) :=
              Lib.hid fun V hk => ⟨(HXc.out V hk).2.1, (HXc.out V hk).2.2.1, (HXc.out V hk).2.2.2⟩
            have S0 := HSt.out _ HP.out.kx
            refine wp_region_held_drew (S := fun V => V.cell? ⟨W.heap.size, 1, none⟩ = some (.string xu) ∧ V.cell? ⟨W.heap.size, 2, none⟩ = some (.int .i64 xx) ∧ V.cell? ⟨W.heap.size, 3, none⟩ = some (.int .i64 xm)) (by kernel_rfl) (S0) (fun hS => ?_)
            refine wpAnyH_take (i := 0) (oi := { dst := some 120, op := _, type := _, pos := _, after := _, guard := _ }) (v := ?_) rfl (by kernel_rfl) (by kernel_rfl) (by kernel_rfl) (fun _ _ _ h => h) (Or.inl ⟨by rfl, ?_⟩) (by assumption) ?_
            rotate_left
            · intro w hSw
              try dsimp only at hSw
              go_simp
              try with_reducible rfl
            try simp only [Act.put, List.setIfInBounds_toArray, List.set_cons_zero, List.set_cons_succ]
            refine wpAnyH_take (i := 1) (oi := { dst := some 121, op := _, type := _, pos := _, after := _, guard := _ }) (v := ?_) rfl (by kernel_rfl) (by kernel_rfl) (by kernel_rfl) (fun _ _ _ h => h) (Or.inl ⟨by rfl, ?_⟩) (by assumption) ?_
            rotate_left
            · intro w hSw
              try dsimp only at hSw
              go_simp
              try with_reducible rfl
            try simp only [Act.put, List.setIfInBounds_toArray, List.set_cons_zero, List.set_cons_succ]
            refine wpAnyH_take (i := 2) (oi := { dst := some 122, op := _, type := _, pos := _, after := _, guard := _ }) (v := ?_) rfl (by kernel_rfl) (by kernel_rfl) (by kernel_rfl) (fun _ _ _ h => h) (Or.inl ⟨by rfl, ?_⟩) (by assumption) ?_
            rotate_left
            · intro w hSw
              try dsimp only at hSw
              go_simp
              try with_reducible rfl
            try simp only [Act.put, List.setIfInBounds_toArray, List.set_cons_zero, List.set_cons_succ]
            refine wpAnyH_take (i := 3) (oi := { dst := some 123, op := _, type := _, pos := _, after := _, guard := _ }) (v := ?_) rfl (by kernel_rfl) (by kernel_rfl) (by kernel_rfl) (fun _ _ _ h => h) (Or.inl ⟨by rfl, ?_⟩) (by assumption) ?_
            rotate_left
            · intro w hSw
              try dsimp only at hSw
              go_simp
              try with_reducible rfl
            try simp only [Act.put, List.setIfInBounds_toArray, List.set_cons_zero, List.set_cons_succ]
            refine wpAnyH_take (i := 4) (oi := { dst := some 124, op := _, type := _, pos := _, after := _, guard := _ }) (v := ?_) rfl (by kernel_rfl) (by kernel_rfl) (by kernel_rfl) (fun _ _ _ h => h) (Or.inl ⟨by rfl, ?_⟩) (by assumption) ?_
            rotate_left
            · intro w hSw
              try dsimp only at hSw
              go_simp
              try with_reducible rfl
            try simp only [Act.put, List.setIfInBounds_toArray, List.set_cons_zero, List.set_cons_succ]
            refine wpAnyH_take (i := 5) (oi := { dst := some 125, op := _, type := _, pos := _, after := _, guard := _ }) (v := ?_) rfl (by kernel_rfl) (by kernel_rfl) (by kernel_rfl) (fun _ _ _ h => h) (Or.inl ⟨by rfl, ?_⟩) (by assumption) ?_
            rotate_left
            · intro w hSw
              try dsimp only at hSw
              go_simp
              try with_reducible rfl
            try simp only [Act.put, List.setIfInBounds_toArray, List.set_cons_zero, List.set_cons_succ]
            refine wpAnyH_take (i := 6) (oi := { dst := some 126, op := _, type := _, pos := _, after := _, guard := _ }) (v := ?_) rfl (by kernel_rfl) (by kernel_rfl) (by kernel_rfl) (fun _ _ _ h => h) (Or.inl ⟨by rfl, ?_⟩) (by assumption) ?_
            rotate_left
            · intro w hSw
              try dsimp only at hSw
              go_simp
              try with_reducible rfl
            try simp only [Act.put, List.setIfInBounds_toArray, List.set_cons_zero, List.set_cons_succ]
            refine wpAnyH_take (i := 8) (oi := { dst := some 128, op := _, type := _, pos := _, after := _, guard := _ }) (v := ?_) rfl (by kernel_rfl) (by kernel_rfl) (by kernel_rfl) (fun _ _ _ h => h) (Or.inl ⟨by rfl, ?_⟩) (by assumption) ?_
            rotate_left
            · intro w hSw
              try dsimp only at hSw
              go_simp
              try with_reducible rfl
            try simp only [Act.put, List.setIfInBounds_toArray, List.set_cons_zero, List.set_cons_succ]
            refine wpAnyH_take (i := 9) (oi := { dst := some 129, op := _, type := _, pos := _, after := _, guard := _ }) (v := ?_) rfl (by kernel_rfl) (by kernel_rfl) (by kernel_rfl) (fun _ _ _ h => h) (Or.inl ⟨by rfl, ?_⟩) (by assumption) ?_
            rotate_left
            · intro w hSw
              try dsimp only at hSw
              go_simp
              try with_reducible rfl
            try simp only [Act.put, List.setIfInBounds_toArray, List.set_cons_zero, List.set_cons_succ]
            refine wpAnyH_take (i := 10) (oi := { dst := some 130, op := _, type := _, pos := _, after := _, guard := _ }) (v := ?_) rfl (by kernel_rfl) (by kernel_rfl) (by kernel_rfl) (fun _ _ _ h => h) (Or.inl ⟨by rfl, ?_⟩) (by assumption) ?_
            rotate_left
            · intro w hSw
              try dsimp only at hSw
              go_simp
              try with_reducible rfl
            try simp only [Act.put, List.setIfInBounds_toArray, List.set_cons_zero, List.set_cons_succ]
            refine wpAnyH_take (i := 11) (oi := { dst := some 131, op := _, type := _, pos := _, after := _, guard := _ }) (v := ?_) rfl (by kernel_rfl) (by kernel_rfl) (by kernel_rfl) (fun _ _ _ h => h) (Or.inl ⟨by rfl, ?_⟩) (by assumption) ?_
            rotate_left
            · intro w hSw
              try dsimp only at hSw
              go_simp
              try with_reducible rfl
            try simp only [Act.put, List.setIfInBounds_toArray, List.set_cons_zero, List.set_cons_succ]
            refine wpAnyH_take (i := 12) (oi := { dst := some 132, op := _, type := _, pos := _, after := _, guard := _ }) (v := ?_) rfl (by kernel_rfl) (by kernel_rfl) (by kernel_rfl) (fun _ _ _ h => h) (Or.inl ⟨by rfl, ?_⟩) (by assumption) ?_
            rotate_left
            · intro w hSw
              try dsimp only at hSw
              go_simp
              try with_reducible rfl
            try simp only [Act.put, List.setIfInBounds_toArray, List.set_cons_zero, List.set_cons_succ]
            refine wpAnyH_take (i := 13) (oi := { dst := some 133, op := _, type := _, pos := _, after := _, guard := _ }) (v := ?_) rfl (by kernel_rfl) (by kernel_rfl) (by kernel_rfl) (fun _ _ _ h => h) (Or.inl ⟨by rfl, ?_⟩) (by assumption) ?_
            rotate_left
            · intro w hSw
              try dsimp only at hSw
              go_simp
              try with_reducible rfl
            try simp only [Act.put, List.setIfInBounds_toArray, List.set_cons_zero, List.set_cons_succ]
            refine wpAnyH_take (i := 14) (oi := { dst := some 134, op := _, type := _, pos := _, after := _, guard := _ }) (v := ?_) rfl (by kernel_rfl) (by kernel_rfl) (by kernel_rfl) (fun _ _ _ h => h) (Or.inl ⟨by rfl, ?_⟩) (by assumption) ?_
            rotate_left
            · intro w hSw
              try dsimp only at hSw
              go_simp
              try with_reducible rfl
            try simp only [Act.put, List.setIfInBounds_toArray, List.set_cons_zero, List.set_cons_succ]
            refine wpAnyH_ready (rs := [7]) (by kernel_rfl) (by simp) ?_
            refine AllReadyH.cons rfl (fun K hK => ?_) AllReadyH.nil
            go_simp
            refine (puse W b g most B B1 xu xx xm r2 _ HP.out.l hxu HR2.out).mono ?_
            rintro e v1 ⟨rfl, hp, hg⟩
            have HP := Lib.hid (HP.out.left hp hg)
            clear hp hg
            go_wp2_with fail
            refine hK.out _ _ ?_ (fun hHeld => ?_)
            · exact HSt.out _ HP.out.kx
            clear hK K
            try simp only [Act.put, List.setIfInBounds_toArray, List.set_cons_zero, List.set_cons_succ]
            refine wpAnyH_ready (rs := [15]) (by kernel_rfl) (by simp) ?_
            refine AllReadyH.cons rfl (fun K hK => ?_) AllReadyH.nil
            go_simp
            refine (puse W b2 g2 most A A1 xu xx xm r2 _ HP.out.r hxu HR1.out).mono ?_
            rintro e v2 ⟨rfl, hp, hg⟩
            have HP := Lib.hid (HP.out.right hp hg)
            clear hp hg
            go_wp2_with fail
            refine hK.out _ _ ?_ (fun hHeld => ?_)
            · exact HSt.out _ HP.out.kx
            clear hK K
            try simp only [Act.put, List.setIfInBounds_toArray, List.set_cons_zero, List.set_cons_succ]
            refine wpAnyH_take (i := 16) (oi := { dst := some 136, op := _, type := _, pos := _, after := _, guard := _ }) (v := ?_) rfl (by kernel_rfl) (by kernel_rfl) (by kernel_rfl) (fun _ _ _ h => h) (Or.inl ⟨by rfl, ?_⟩) (by assumption) ?_
            rotate_left
            · intro w hSw
              try dsimp only at hSw
              go_simp
              try with_reducible rfl
            try simp only [Act.put, List.setIfInBounds_toArray, List.set_cons_zero, List.set_cons_succ]
            refine wpAnyH_take (i := 17) (oi := { dst := some 137, op := _, type := _, pos := _, after := _, guard := _ }) (v := ?_) rfl (by kernel_rfl) (by kernel_rfl) (by kernel_rfl) (fun _ _ _ h => h) (Or.inl ⟨by rfl, ?_⟩) (by assumption) ?_
            rotate_left
            · intro w hSw
              try dsimp only at hSw
              go_simp
              try with_reducible rfl
            try simp only [Act.put, List.setIfInBounds_toArray, List.set_cons_zero, List.set_cons_succ]
            refine wpAnyH_take (i := 18) (oi := { dst := some 138, op := _, type := _, pos := _, after := _, guard := _ }) (v := ?_) rfl (by kernel_rfl) (by kernel_rfl) (by kernel_rfl) (fun _ _ _ h => h) (Or.inl ⟨by rfl, ?_⟩) (by assumption) ?_
            rotate_left
            · intro w hSw
              try dsimp only at hSw
              go_simp
              try with_reducible rfl
            try simp only [Act.put, List.setIfInBounds_toArray, List.set_cons_zero, List.set_cons_succ]
            refine wpAnyH_take (i := 19) (oi := { dst := some 139, op := _, type := _, pos := _, after := _, guard := _ }) (v := ?_) rfl (by kernel_rfl) (by kernel_rfl) (by kernel_rfl) (fun _ _ _ h => h) (Or.inl ⟨by rfl, ?_⟩) (by assumption) ?_
            rotate_left
            · intro w hSw
              try dsimp only at hSw
              go_simp
              try with_reducible rfl
            try simp only [Act.put, List.setIfInBounds_toArray, List.set_cons_zero, List.set_cons_succ]
            refine wpAnyH_take (i := 20) (oi := { dst := some 140, op := _, type := _, pos := _, after := _, guard := _ }) (v := ?_) rfl (by kernel_rfl) (by kernel_rfl) (by kernel_rfl) (fun _ _ _ h => h) (Or.inl ⟨by rfl, ?_⟩) (by assumption) ?_
            rotate_left
            · intro w hSw
              try dsimp only at hSw
              go_simp
              try with_reducible rfl
            try simp only [Act.put, List.setIfInBounds_toArray, List.set_cons_zero, List.set_cons_succ]
            refine wpAnyH_take (i := 21) (oi := { dst := some 141, op := _, type := _, pos := _, after := _, guard := _ }) (v := ?_) rfl (by kernel_rfl) (by kernel_rfl) (by kernel_rfl) (fun _ _ _ h => h) (Or.inl ⟨by rfl, ?_⟩) (by assumption) ?_
            rotate_left
            · intro w hSw
              try dsimp only at hSw
              go_simp
              try with_reducible rfl
            try simp only [Act.put, List.setIfInBounds_toArray, List.set_cons_zero, List.set_cons_succ]
            refine wpAnyH_take (i := 22) (oi := { dst := some 142, op := _, type := _, pos := _, after := _, guard := _ }) (v := ?_) rfl (by kernel_rfl) (by kernel_rfl) (by kernel_rfl) (fun _ _ _ h => h) (Or.inl ⟨by rfl, ?_⟩) (by assumption) ?_
            rotate_left
            · intro w hSw
              try dsimp only at hSw
              go_simp
              try with_reducible rfl
            try simp only [Act.put, List.setIfInBounds_toArray, List.set_cons_zero, List.set_cons_succ]
            refine wpAnyH_take (i := 24) (oi := { dst := some 144, op := _, type := _, pos := _, after := _, guard := _ }) (v := ?_) rfl (by kernel_rfl) (by kernel_rfl) (by kernel_rfl) (fun _ _ _ h => h) (Or.inl ⟨by rfl, ?_⟩) (by assumption) ?_
            rotate_left
            · intro w hSw
              try dsimp only at hSw
              go_simp
              try with_reducible rfl
            try simp only [Act.put, List.setIfInBounds_toArray, List.set_cons_zero, List.set_cons_succ]
            refine wpAnyH_take (i := 25) (oi := { dst := some 145, op := _, type := _, pos := _, after := _, guard := _ }) (v := ?_) rfl (by kernel_rfl) (by kernel_rfl) (by kernel_rfl) (fun _ _ _ h => h) (Or.inl ⟨by rfl, ?_⟩) (by assumption) ?_
            rotate_left
            · intro w hSw
              try dsimp only at hSw
              go_simp
              try with_reducible rfl
            try simp only [Act.put, List.setIfInBounds_toArray, List.set_cons_zero, List.set_cons_succ]
            refine wpAnyH_take (i := 26) (oi := { dst := some 146, op := _, type := _, pos := _, after := _, guard := _ }) (v := ?_) rfl (by kernel_rfl) (by kernel_rfl) (by kernel_rfl) (fun _ _ _ h => h) (Or.inl ⟨by rfl, ?_⟩) (by assumption) ?_
            rotate_left
            · intro w hSw
              try dsimp only at hSw
              go_simp
              try with_reducible rfl
            try simp only [Act.put, List.setIfInBounds_toArray, List.set_cons_zero, List.set_cons_succ]
            refine wpAnyH_take (i := 27) (oi := { dst := some 147, op := _, type := _, pos := _, after := _, guard := _ }) (v := ?_) rfl (by kernel_rfl) (by kernel_rfl) (by kernel_rfl) (fun _ _ _ h => h) (Or.inl ⟨by rfl, ?_⟩) (by assumption) ?_
            rotate_left
            · intro w hSw
              try dsimp only at hSw
              go_simp
              try with_reducible rfl
            try simp only [Act.put, List.setIfInBounds_toArray, List.set_cons_zero, List.set_cons_succ]
            refine wpAnyH_take (i := 28) (oi := { dst := some 148, op := _, type := _, pos := _, after := _, guard := _ }) (v := ?_) rfl (by kernel_rfl) (by kernel_rfl) (by kernel_rfl) (fun _ _ _ h => h) (Or.inl ⟨by rfl, ?_⟩) (by assumption) ?_
            rotate_left
            · intro w hSw
              try dsimp only at hSw
              go_simp
              try with_reducible rfl
            try simp only [Act.put, List.setIfInBounds_toArray, List.set_cons_zero, List.set_cons_succ]
            refine wpAnyH_ready (rs := [23]) (by kernel_rfl) (by simp) ?_
            refine AllReadyH.cons rfl (fun K hK => ?_) AllReadyH.nil
            go_simp
            refine (pseen W b g most B1 xu xm v _ HP.out.l hxu HV2.out).mono ?_
            rintro e v3 ⟨rfl, _, hb⟩
            have HP := Lib.hid (HP.out.step hb)
            clear hb
            go_wp2_with fail
            refine hK.out _ _ ?_ (fun hHeld => ?_)
            · exact HSt.out _ HP.out.kx
            clear hK K
            try simp only [Act.put, List.setIfInBounds_toArray, List.set_cons_zero, List.set_cons_succ]
            refine wpAnyH_ready (rs := [29]) (by kernel_rfl) (by simp) ?_
            refine AllReadyH.cons rfl (fun K hK => ?_) AllReadyH.nil
            go_simp
            refine (pseen W b2 g2 most A1 xu xm v _ HP.out.r hxu HV.out).mono ?_
            rintro e v4 ⟨rfl, _, hb⟩
            have HP := Lib.hid (HP.out.step hb)
            clear hb
            go_wp2_with fail
            refine hK.out _ _ ?_ (fun hHeld => ?_)
            · exact HSt.out _ HP.out.kx
            clear hK K
            try simp only [Act.put, List.setIfInBounds_toArray, List.set_cons_zero, List.set_cons_succ]
            refine wpAnyH_take (i := 30) (oi := { dst := some 150, op := _, type := _, pos := _, after := _, guard := _ }) (v := ?_) rfl (by kernel_rfl) (by kernel_rfl) (by kernel_rfl) (fun _ _ _ h => h) (Or.inl ⟨by rfl, ?_⟩) (by assumption) ?_
            rotate_left
            · intro w hSw
              try dsimp only at hSw
              go_simp
              try with_reducible rfl
            try simp only [Act.put, List.setIfInBounds_toArray, List.set_cons_zero, List.set_cons_succ]
            refine wpAnyH_take (i := 31) (oi := { dst := some 151, op := _, type := _, pos := _, after := _, guard := _ }) (v := ?_) rfl (by kernel_rfl) (by kernel_rfl) (by kernel_rfl) (fun _ _ _ h => h) (Or.inl ⟨by rfl, ?_⟩) (by assumption) ?_
            rotate_left
            · intro w hSw
              try dsimp only at hSw
              go_simp
              try with_reducible rfl
            try simp only [Act.put, List.setIfInBounds_toArray, List.set_cons_zero, List.set_cons_succ]
            refine wpAnyH_take (i := 32) (oi := { dst := some 152, op := _, type := _, pos := _, after := _, guard := _ }) (v := ?_) rfl (by kernel_rfl) (by kernel_rfl) (by kernel_rfl) (fun _ _ _ h => h) (Or.inl ⟨by rfl, ?_⟩) (by assumption) ?_
            rotate_left
            · intro w hSw
              try dsimp only at hSw
              go_simp
              try with_reducible rfl
            try simp only [Act.put, List.setIfInBounds_toArray, List.set_cons_zero, List.set_cons_succ]
            refine wpAnyH_ready (rs := [33]) (by kernel_rfl) (by simp) ?_
            refine AllReadyH.cons rfl (fun K hK => ?_) AllReadyH.nil
            go_simp
            refine (alive_s _).mono ?_
            rintro e v5 ⟨rfl, hb⟩
            have HP := Lib.hid (HP.out.step hb)
            clear hb
            go_wp2_with fail
            refine hK.out _ _ ?_ (fun hHeld => ?_)
            · exact HSt.out _ HP.out.kx
            clear hK K
            try simp only [Act.put, List.setIfInBounds_toArray, List.set_cons_zero, List.set_cons_succ]
            refine wpAnyH_take (i := 34) (oi := { dst := some 154, op := _, type := _, pos := _, after := _, guard := _ }) (v := ?_) rfl (by kernel_rfl) (by kernel_rfl) (by kernel_rfl) (fun _ _ _ h => h) (Or.inl ⟨by rfl, ?_⟩) (by assumption) ?_
            rotate_left
            · intro w hSw
              try dsimp only at hSw
              go_simp
              try with_reducible rfl
            try simp only [Act.put, List.setIfInBounds_toArray, List.set_cons_zero, List.set_cons_succ]
            refine wpAnyH_take (i := 35) (oi := { dst := some 6, op := _, type := _, pos := _, after := _, guard := _ }) (v := ?_) rfl (by kernel_rfl) (by kernel_rfl) (by kernel_rfl) (fun _ _ _ h => h) (Or.inl ⟨by rfl, ?_⟩) (by assumption) ?_
            rotate_left
            · intro w hSw
              try dsimp only at hSw
              go_simp
              try with_reducible rfl
            try simp only [Act.put, List.setIfInBounds_toArray, List.set_cons_zero, List.set_cons_succ]
            refine wpAnyH_done (by kernel_rfl) ?_ _
            go_wp2_with fail
            go_ret
            exact ⟨rfl, HP.out.l.low⟩
      · go_enter Try.func5, Try.ntmps5
        go_wp2_with fail
        refine (HFw.out _ HBx.out).mono ?_
        rintro e w1 ⟨rfl, rfl⟩
        go_wp2_with fail
        refine (new_bad most _ hk).mono ?_
        rintro e w1 ⟨rfl, rfl⟩
        go_wp2_with fail
        refine (new_bad most _ hk).mono ?_
        rintro e w1 ⟨rfl, rfl⟩
        go_wp2_with fail
        refine (alive_s _).mono ?_
        rintro e w9 ⟨rfl, hb⟩
        have HB := Lib.hid (HBx.out.trans (hb.mono HBx.out.size))
        clear hb
        go_wp2_with fail
        go_ret
        exact ⟨rfl, HB.out⟩

theorem lopurges_types : ∀ t ∈ [3, 22, 33], Try.prog.readableRec t = true ∧ t < Try.prog.types.size := by
  have h : ([3, 22, 33].all fun t => Try.prog.readableRec t && decide (t < Try.prog.types.size)) = true := by kernel_rfl
  intro t ht
  have := List.all_eq_true.1 h t ht
  simpa using this

set_option maxRecDepth 100000 in
theorem lopurges_contract (H : Type) (enc : TypeId × Value → H) (W : World) (base : Nat) (args : Array Value) (ds gs : List (DataW H)) (before : List MemPlace)
    (hval : ∀ (j : Nat) t v, Try.f5.params[j]? = some t → args[j]? = some v → Value.okWide Try.prog W .any base t v)
    (hW : DataW.Whole enc Try.prog Try.f5.params.toList Rows.oncePurgesSpec.vars false W args.toList ds gs before) (hsh : W.ShapedOpen Try.prog) :
    Calls Try.prog 5 args W fun e W' => ∃ v, e = .returned v ∧ Rows.oncePurgesSpec.post enc Try.prog Try.f5 false true false false W args v W' := by
  have hW' := hW
  obtain ⟨p, q, hA0, hV, rfl, hfz, hnd⟩ := hW
  have hA : DataW.TrodAll enc Try.prog W 0 (fun _ => true) true Try.f5.params.toList args.toList ds p := hA0
  obtain ⟨rfl, rfl⟩ := trodVars_none hV
  simp only [List.append_nil] at hW'
  have hlt : ∀ x ∈ p, x.block < W.heap.size := fun x hx => by simpa using hW'.lt x hx
  have fin : ∀ W', Below W.heap.size W W' → DataW.TrodAll enc Try.prog W' 0 (fun b => decide (b < W.heap.size)) true [3, 22, 33] args.toList ds p := fun W' hb => by
    rw [Try.params5] at hA
    exact trodAll_below hb _ _ _ _ lopurges_types hA hlt
  clear hA0
  rw [Try.params5] at hA hval
  obtain ⟨v0, vs0, d0, ds0, p0, q0, hargs, rfl, hp0, h0, r0⟩ := trodAll_cons hA
  obtain ⟨v1, vs1, d1, ds1, p1, q1, rfl, rfl, hp1, h1, r1⟩ := trodAll_cons r0
  obtain ⟨v2, vs2, d2, ds2, p2, q2, rfl, rfl, hp2, h2, r2⟩ := trodAll_cons r1
  obtain ⟨rfl, rfl, rfl⟩ := trodAll_nil r2
  obtain rfl : args = #[v0, v1, v2] := by cases args; simp_all
  obtain ⟨most, rfl, rfl, rfl, hs0⟩ := open_int Try.underlying3 (hval 0 3 v0 rfl rfl) h0
  obtain ⟨l, ln, lc, ll, rfl, hs1, _⟩ := open_ocs (hval 1 22 v1 rfl rfl) h1
  obtain ⟨x, rfl, hs2⟩ := open_oc (hval 2 33 v2 rfl rfl) h2
  refine (lopurges_s most l ln lc ll x W (int_range hs0) hs1 hs2).mono fun e W' ⟨he, hb⟩ => ?_
  subst he
  exact ⟨_, rfl, _, _, _, [], p, [], hW', trodAll_mk1 (shut_bool Try.underlying4 _), fin W' hb, rfl, hb.frame _, fun h => by cases h⟩

set_option maxRecDepth 100000 in
theorem lopurges_lifted (os : Os) (started : os.Started) (H : Type) (enc : TypeId × Value → H) :
    ReturnsInHanded {} Try.checked os 5 .any (Rows.oncePurgesSpec.pre6 enc Try.prog Try.f5 Rows.oncePurgesRow.domain false) (Rows.oncePurgesSpec.post enc Try.prog Try.f5 false true false false) := by
  refine returnsInHanded_of_change_shaped (C := Try.checked) own started (by kernel_rfl) Try.func5
    (ChangeSpec.witness6 (enc := enc) (C := Try.checked) false ⟨#[], #[.int .i64 0, .slice none 0 0, .agg #[.int .i64 0, .string ⟨#[]⟩, .int .i64 0, .int .i64 0]], []⟩ 8 (by kernel_rfl) (by kernel_rfl) (by kernel_rfl) (by kernel_rfl)) ?_
  intro W base args ds gs before hval hW _ _ hsh _
  exact lopurges_contract H enc W base args ds gs before hval hW hsh

set_option maxRecDepth 100000 in
/-- THE STATEMENT -/
theorem lopurges_said : Rows.OncePurgesSaid :=
  OpenClaim.holds_of_wide 5 Try.f5 rfl rfl rfl rfl rfl rfl rfl ⟨rfl, rfl, rfl, rfl, rfl⟩ rfl rfl rfl rfl rfl (by kernel_rfl) Try.func5 (by kernel_rfl)
    (of_decide_eq_true (by kernel_rfl)) (by unfold Func.isWrapper; first | (rw [if_pos (by decide +kernel)]; kernel_rfl) | (rw [if_neg (by decide +kernel)]; exact ⟨rfl, rfl⟩))
    (fun os started H enc _ => lopurges_lifted os started H enc)
end Go.Proofs.Yteoaekjhicphlaa
