/-
  Proved: identitylaw27.OnceApart returns true for all arguments. No condition beyond the row's own.
-/
import Derived.Test.YteoaekjhicphlaaOncV
import Derived.Deep.RegionHeld3
set_option linter.unusedVariables false
set_option linter.unusedSimpArgs false
set_option linter.unnecessarySimpa false
namespace Go.Proofs.Yteoaekjhicphlaa
open Go.ChangeShapes Go.WideShapes Go.ChangeAt Go.RowKit Go.PlainAid
open Go.ChangeMaps (open_string shut_string)

theorem kbc_other {w w' : World} {k g : Nat} {o : Obj} (h : KbC w k o) (hg : w.grownBy w' (some g)) (hne : k ≠ g) : KbC w' k o := (hg.block k h.big (fun e => hne (by injection e))).trans h
theorem info_bl : (Try.prog.info? 4).map (fun i => (i.zero, i.size, i.bytes)) = some (some (.bool false), 1, 1) := by kernel_rfl
theorem step_push_b {ops : Array Oper} {o : Oper} {a : Act} {K : Act → World → Prop} {Q : Exit → Act → World → Prop} {E : Prop} (wr : World) {base : Nat} {v : Value} {n : Nat} {xs : List Value} (hown : wr.ownsRow base 4 1 v n xs) (s x : Operand) (c : Bool)
    (hgd : o.guard = none)
    (ho : o.op = .call { callee := .builtin .append, args := #[s, x], argTypes := #[42, 42] })
    (hs : a.eval s = v) (hx : a.eval x = .slice (some ⟨wr.heap.size, 0, none⟩) 1 1) (hn : n + 1 ≤ 1000000000) (hbase : base ≤ wr.heap.size)
    (h : ∀ v' w', w'.ownsRow base 4 1 v' (n + 1) (xs ++ [.bool c]) → Hid (Below base wr w') → K (a.put o.dst v') w') :
    if Region.wanted o (yielded ops a.tmps) = true then Oper.wp Try.prog o a (wr.alloc (.cells #[.bool c] 4)) K Q else E := by
  obtain ⟨i0, hi, hz0, hz1, hz2⟩ := it_parts info_bl
  have hw : Region.wanted o (yielded ops a.tmps) = true := by simp [Region.wanted, hgd]
  rw [if_pos hw]
  have hnews : ∀ j u, [Value.bool c][j]? = some u → (wr.alloc (.cells #[.bool c] 4)).cell? ((⟨wr.heap.size, 0, none⟩ : Addr).add j) = some u := by
    intro j u hj
    have hj0 : j = 0 := by
      have := (List.getElem?_eq_some_iff.1 hj).1
      simp at this; exact this
    subst hj0
    simp at hj
    subst hj
    rw [Addr.add_zero']; exact (kbc_new wr _).cell rfl
  obtain ⟨v', w', hr, h2, h3, _⟩ := run_append_own (P := Try.prog) (wr.alloc (.cells #[.bool c] 4)) base 42 o.type 4 i0 (.bool false) 1 1 Try.underlying42 hi hz0 hz1 hz2 rfl (by decide) v n xs (hown.alloc _) ⟨wr.heap.size, 0, none⟩ 1 1 [.bool c] rfl hnews
    (by intro u hu; simp at hu; subst hu; rfl) (by unfold maxLen; omega) (by omega) (by simp; omega)
  unfold Oper.wp execOp
  simp only [ho, resolve, invoke, builtin, Sem.run_bind, Sem.run_pure, Result.andThen_ok, List.map_toArray, List.map_cons, List.map_nil, hs, hx, hr]
  exact h v' w' h2 (Lib.hid (((Below.refl base wr).alloc hbase _).grown h3 (by simp; omega) (fun k hk => (hown.lt k hk).1)))
theorem own_keepB {w V : World} {base k n : Nat} {e : TypeId} {v : Value} {xs : List Value} (h : w.ownsRow base e k v n xs) (hb : ∀ i, base ≤ i → i < w.heap.size → V.heap[i]? = w.heap[i]?) : V.ownsRow base e k v n xs := by
  have h0 := h
  obtain ⟨h1, h2⟩ := h
  refine ⟨h1, ?_⟩
  rcases h2 with h2 | ⟨g, cap, cur, rfl, h3, h4, h5⟩
  · exact .inl h2
  · exact .inr ⟨g, cap, cur, rfl, h3, (hb g h3 (h0.lt g rfl).2).trans h4, h5⟩
/-- a register, a box, a row of answers above both -/
structure PB (W : World) (b g : Nat) (most : Int) (A : Ol) (k : Nat) (o : Obj) (base : Nat) (v : Value) (n : Nat) (bs : List Bool) (w : World) : Prop where
  p : Pl W b g most A w
  kx : KbC w k o
  row : w.ownsRow base 4 1 v n (bs.map Value.bool)
  len : bs.length = n
  bb : b < base
  gg : g < base
  kk : k < base
  wb : W.heap.size ≤ base
  hi : base ≤ w.heap.size
  ng : k ≠ g
section
variable {W w V : World} {b g k base n : Nat} {most : Int} {A A' : Ol} {o : Obj} {v v' : Value} {bs : List Bool} {c : Bool}
theorem PB.step (h : PB W b g most A k o base v n bs w) (hb : Below w.heap.size w V) : PB W b g most A k o base v n bs V :=
  ⟨h.p.step hb, h.kx.step hb, ownR_below h.row hb, h.len, h.bb, h.gg, h.kk, h.wb, Nat.le_trans h.hi hb.size, h.ng⟩
theorem PB.push (h : PB W b g most A k o base v n bs w) (hr : V.ownsRow base 4 1 v' (n + 1) (bs.map Value.bool ++ [.bool c])) (hb : Below base w V) : PB W b g most A k o base v' (n + 1) (bs ++ [c]) V :=
  ⟨⟨h.p.ox.keep (hb.block b h.bb) (hb.block g h.gg), h.p.lb, h.p.lg, h.p.low.trans (hb.mono h.wb)⟩, (hb.block k h.kk).trans h.kx, by rw [List.map_append]; exact hr, by simp [h.len], h.bb, h.gg, h.kk, h.wb, Nat.le_trans h.hi hb.size, h.ng⟩
theorem PB.use (h : PB W b g most A k o base v n bs w) (hp : Pl W b g most A' V) (hg : w.grownBy V (some g)) : PB W b g most A' k o base v n bs V :=
  ⟨hp, kbc_other h.kx hg h.ng, own_keepB h.row fun i h1 h2 => hg.block i h2 (fun e => by have := h.gg; injection e with e; omega), h.len, h.bb, h.gg, h.kk, h.wb, Nat.le_trans h.hi hg.size, h.ng⟩
theorem PB.shape (h : PB W b g most A k o base v n bs w) : ∃ ao cap, v = .slice ao n cap ∧ n ≤ cap ∧ cap ≤ maxLen ∧ (0 < n → ∃ rb, ao = some ⟨rb, 0, none⟩ ∧ ∀ V' : World, base ≤ w.heap.size → (∀ i, base ≤ i → i < w.heap.size → V'.heap[i]? = w.heap[i]?) → ∀ j, j < n → V'.cell? ⟨rb, j, none⟩ = some (.bool (bs.getD j false))) := by
  have h0 := h.row
  obtain ⟨h1, ⟨h2, h3⟩ | ⟨g', cap, cur, rfl, h3, h4, h5, h6, h7, h8⟩⟩ := h.row
  · exact ⟨none, 0, by rw [h2, h3], by omega, by unfold maxLen; omega, fun q => by omega⟩
  · refine ⟨_, cap, rfl, h5, h6, fun _ => ⟨g', rfl, fun V' _ hV j hj => ?_⟩⟩
    have hu : (bs.map Value.bool)[j]? = some (.bool (bs.getD j false)) := by
      rw [List.getElem?_map, List.getD_eq_getElem?_getD, List.getElem?_eq_getElem (by rw [h.len]; exact hj)]; rfl
    have := (own_keepB h0 hV).cells (g := g') rfl j _ hu
    rw [Go.WideShapes.add_plain, Nat.zero_add] at this
    exact this
end
/-- what was seen of the first i calls -/
def sawL (A : Ol) (y : Int) (ll : List Oc) (i : Nat) : List Bool := (ll.take i).map fun o => decide (y < atA A o.id)
theorem sawL_next {A : Ol} {y : Int} {ll : List Oc} {i : Nat} (hi : i < ll.length) {o : Oc} (ho : ocA ll i = o) {c : Bool} (hc : decide (y < atA A o.id) = c) {bs : List Bool} (hb : sawL A y ll i = bs) : sawL A y ll (i + 1) = bs ++ [c] := by
  unfold sawL at *
  rw [take_oc ll i hi, List.map_append, hb, ho]
  show bs ++ [decide (y < atA A o.id)] = _
  rw [hc]
theorem sawL_at {A : Ol} {y : Int} {ll : List Oc} {i : Nat} (hi : i < ll.length) {o : Oc} (ho : ocA ll i = o) {c : Bool} (hc : decide (y < atA A o.id) = c) {bs : List Bool} (hb : sawL A y ll ll.length = bs) : bs.getD i false = c := by
  unfold sawL at hb
  rw [List.take_length] at hb
  rw [← hb, List.getD_eq_getElem?_getD, List.getElem?_map, List.getElem?_eq_getElem hi]
  rw [← oc_get hi, ho]
  simpa using hc
theorem last_at {bs : List Bool} {c : Bool} {n : Nat} (h : bs.length = n) : (bs ++ [c]).getD n false = c := by
  rw [List.getD_eq_getElem?_getD, List.getElem?_append_right (by omega), h]; simp
theorem str_b (a b : ByteArray) : (a.toList == b.toList) = decide (a = b) := by
  rw [Lib.toList_data, Lib.toList_data, Bool.eq_iff_iff, beq_iff_eq, decide_eq_true_eq]
  exact ⟨fun h => by rw [← Lib.mk_data a, ← Lib.mk_data b, h], fun h => by rw [h]⟩
theorem str_ne {a b : ByteArray} (h : a ≠ b) : (a.toList == b.toList) = false ∧ (a.toList != b.toList) = true := by
  have : (a.toList == b.toList) = false := by rw [str_b]; exact decide_eq_false h
  exact ⟨this, by simp [bne, this]⟩
theorem str_eq (a : ByteArray) : (a.toList == a.toList) = true ∧ (a.toList != a.toList) = false := ⟨beq_self_eq_true _, bne_self_eq_false _⟩
theorem dec_iff {p q : Prop} [Decidable p] [Decidable q] (h : p ↔ q) {v : Bool} (e : decide q = v) : decide p = v := by rw [← e]; exact decide_eq_decide.2 h
set_option maxRecDepth 100000 in
set_option maxHeartbeats 16000000 in
theorem loapart_s (most : Int) (l : Option Addr) (ln lc : Nat) (ll : List Oc) (x : Oc) (W : World) (Mmost : -9223372036854775808 ≤ most ∧ most ≤ 9223372036854775807) (Ml : OcsAt W l ln lc ll) (Mx : InOc x) :
    Calls Try.prog 6 #[.int .i64 most, .slice l ln lc, ocV x] W fun e w' => e = .returned (.bool true) ∧ Below W.heap.size W w' := by
  have HL := Lib.hid Ml
  have hln := Ml.1
  have hl2 := Ml.2.1
  have hl3 := Ml.2.2.1
  subst hln
  unfold maxLen at hl3
  obtain ⟨xk, xu, xx, xm⟩ := x
  obtain ⟨_, mxu, _, _⟩ := Mx
  dsimp only at mxu
  unfold maxLen at mxu
  show Calls Try.prog 6 #[.int .i64 most, .slice l ll.length lc, .agg #[.int .i64 xk, .string xu, .int .i64 xx, .int .i64 xm]] W _
  have HBx := Lib.hid (box_below W (ocO xk xu xx xm))
  have HKx := Lib.hid (kbc_new W (ocO xk xu xx xm))
  have hxb : W.heap.size < (W.alloc (ocO xk xu xx xm)).heap.size := by simp
  obtain ⟨W1, hW1⟩ : ∃ W1, W.alloc (ocO xk xu xx xm) = W1 := ⟨_, rfl⟩
  rw [hW1] at HBx HKx hxb
  have HXc : Hid (∀ V, KbC V W.heap.size (ocO xk xu xx xm) → V.cell? ⟨W.heap.size, 0, none⟩ = some (.int .i64 xk) ∧ V.cell? ⟨W.heap.size, 1, none⟩ = some (.string xu) ∧ V.cell? ⟨W.heap.size, 2, none⟩ = some (.int .i64 xx) ∧ V.cell? ⟨W.heap.size, 3, none⟩ = some (.int .i64 xm)) := Lib.hid fun V h => h.oc
  unfold ocO at hW1
  obtain ⟨b0, b1, b2, b3⟩ := HXc.out _ HKx.out
  obtain ⟨gf, hg⟩ : ∃ gf, fewB ll = gf := ⟨_, rfl⟩
  have HFw := Lib.hid (fun V hV => few_k l ll.length lc ll gf V (HL.out.below hV) hg)
  clear Mmost Ml
  cases gf with
  | false =>
    clear hg
    go_enter Try.func6, Try.ntmps6
    go_wp2_with fail
    refine (HFw.out _ HBx.out).mono ?_
    rintro e w1 ⟨rfl, rfl⟩
    go_wp2_with fail
    refine (alive_s _).mono ?_
    rintro e w9 ⟨rfl, hb⟩
    have HB := Lib.hid (HBx.out.trans (hb.mono HBx.out.size))
    clear hb
    go_wp2_with fail
    go_ret
    exact ⟨rfl, HB.out⟩
  | true =>
    obtain ⟨hl30, hsz⟩ := fewB_out hg
    have HZ := Lib.hid hsz
    clear hg hsz
    by_cases hxl : 100 < xu.size
    · have d1 : (100 : Int) < (xu.size : Int) := by omega
      go_enter Try.func6, Try.ntmps6
      go_wp2_with fail
      refine (HFw.out _ HBx.out).mono ?_
      rintro e w1 ⟨rfl, rfl⟩
      go_wp2_with fail
      refine (alive_s _).mono ?_
      rintro e w9 ⟨rfl, hb⟩
      have HB := Lib.hid (HBx.out.trans (hb.mono HBx.out.size))
      clear hb
      go_wp2_with fail
      go_ret
      exact ⟨rfl, HB.out⟩
    · have d1 : ¬ (100 : Int) < (xu.size : Int) := by omega
      have hxu : xu.size ≤ 1000000000 := by omega
      by_cases hk : 1 ≤ most ∧ most ≤ 256
      · obtain ⟨m0, m1⟩ := hk
        go_enter Try.func6, Try.ntmps6
        go_wp2_with fail
        refine (HFw.out _ HBx.out).mono ?_
        rintro e w1 ⟨rfl, rfl⟩
        go_wp2_with fail
        refine (pnew most W _ HBx.out m0 m1).mono ?_
        rintro e w2 ⟨b, rfl, g, hp, hb2, hbx, hgx⟩
        have HP1 := Lib.hid hp
        have HKx := Lib.hid (HKx.out.step hb2)
        have HG1 : Hid (W.heap.size ≠ g) := Lib.hid (by omega)
        clear hp hb2 hbx hgx b0 b1 b2 b3
        go_wp2_with fail
        refine (play_k W b g most [] l ll.length lc ll _ HP1.out HL.out HZ.out (by omega)).mono ?_
        rintro e w4 ⟨rfl, hp, hg⟩
        obtain ⟨A, hA⟩ : ∃ A, plA most [] ll = A := ⟨_, rfl⟩
        rw [hA] at hp
        have HP0 : Hid (PB W b g most A W.heap.size (ocO xk xu xx xm) w4.heap.size (.slice none 0 0) 0 [] w4) := Lib.hid ⟨hp, kbc_other HKx.out hg HG1.out, World.ownsRow_nil _ _ _ _, rfl, hp.ox.big.1, hp.ox.big.2, (kbc_other HKx.out hg HG1.out).big, hp.low.size, Nat.le_refl _, HG1.out⟩
        clear hp hg hA HP1 HKx HG1
        obtain ⟨base, hbs⟩ : ∃ base, w4.heap.size = base := ⟨_, rfl⟩
        rw [hbs] at HP0
        clear hbs
        obtain ⟨y, hy⟩ : ∃ y, limI xm = y := ⟨_, rfl⟩
        have HY := Lib.hid hy
        have hyb := limI_bd xm
        rw [hy] at hyb
        have HYb := Lib.hid hyb
        clear hy hyb
        go_wp2_with fail
        go_loopw [9, 10] (fun v iv wr => ∃ (i : Nat) (bs : List Bool), i ≤ ll.length ∧ iv = .int .i64 i ∧ Hid (sawL A y ll i = bs) ∧ Hid (PB W b g most A W.heap.size (ocO xk xu xx xm) base v i bs wr)) (fun _ iv _ => ll.length - (intOf iv).toNat)
        case atStart => exact ⟨0, [], Nat.zero_le _, rfl, Lib.hid rfl, HP0⟩
        case round =>
          clear HP0
          obtain ⟨i, bs, hi, rfl, HBs, HP⟩ := hrel
          by_cases hlt : i < ll.length
          · have di : (i : Int) < (ll.length : Int) := by omega
            obtain ⟨lb, lw, hla, _⟩ := HL.out.2.2.2.1 (by omega)
            subst hla
            have hu := HZ.out i hlt
            obtain ⟨⟨q, u, x, m⟩, hc⟩ : ∃ c, ocA ll i = c := ⟨_, rfl⟩
            have HC := Lib.hid hc
            have HCs := Lib.hid (fun V (hV : Below W.heap.size W V) => HL.out.cells hlt hc hV)
            rw [hc] at hu
            dsimp only at hu
            clear hc
            have hu : u.size ≤ 1000000000 := Nat.le_trans hu (by decide)
            have HLn := Lib.hid HP.out.len
            have HSt : Hid (∀ V, Below W.heap.size W V → KbC V W.heap.size (ocO xk xu xx xm) → V.cell? ⟨W.heap.size, 3, none⟩ = some (.int .i64 xm) ∧ V.cell? ⟨lb, lw + i * 4 + 1, none⟩ = some (.string u)) :=
              Lib.hid fun V hV hk => ⟨(HXc.out V hk).2.2.2, (HCs.out V hV).2.1⟩
            cases hv : decide (y < atA A u) with
            | false =>
              have HN1 := Lib.hid (sawL_next hlt HC.out hv HBs.out)
              go_wp2_with fail
              have HP := Lib.hid (HP.out.step (Below.refl _ _).drew)
              have S0 := HSt.out _ HP.out.p.low HP.out.kx
              refine wp_region_held_drew (S := fun V => V.cell? ⟨W.heap.size, 3, none⟩ = some (.int .i64 xm) ∧ V.cell? ⟨lb, lw + i * 4 + 1, none⟩ = some (.string u)) (by kernel_rfl) (S0) (fun hS => ?_)
              refine wpAnyH_take (i := 0) (oi := { dst := some 51, op := _, type := _, pos := _, after := _, guard := _ }) (v := ?_) rfl (by kernel_rfl) (by kernel_rfl) (by kernel_rfl) (fun _ _ _ h => h) (Or.inl ⟨by rfl, ?_⟩) (by assumption) ?_
              rotate_left
              · intro w hSw
                try dsimp only at hSw
                go_simp
                try with_reducible rfl
              try simp only [Act.put, List.setIfInBounds_toArray, List.set_cons_zero, List.set_cons_succ]
              refine wpAnyH_take (i := 1) (oi := { dst := some 52, op := _, type := _, pos := _, after := _, guard := _ }) (v := ?_) rfl (by kernel_rfl) (by kernel_rfl) (by kernel_rfl) (fun _ _ _ h => h) (Or.inl ⟨by rfl, ?_⟩) (by assumption) ?_
              rotate_left
              · intro w hSw
                try dsimp only at hSw
                go_simp
                try with_reducible rfl
              try simp only [Act.put, List.setIfInBounds_toArray, List.set_cons_zero, List.set_cons_succ]
              refine wpAnyH_take (i := 2) (oi := { dst := some 53, op := _, type := _, pos := _, after := _, guard := _ }) (v := ?_) rfl (by kernel_rfl) (by kernel_rfl) (by kernel_rfl) (fun _ _ _ h => h) (Or.inl ⟨by rfl, ?_⟩) (by assumption) ?_
              rotate_left
              · intro w hSw
                try dsimp only at hSw
                go_simp
                try with_reducible rfl
              try simp only [Act.put, List.setIfInBounds_toArray, List.set_cons_zero, List.set_cons_succ]
              refine wpAnyH_take (i := 3) (oi := { dst := some 54, op := _, type := _, pos := _, after := _, guard := _ }) (v := ?_) rfl (by kernel_rfl) (by kernel_rfl) (by kernel_rfl) (fun _ _ _ h => h) (Or.inl ⟨by rfl, ?_⟩) (by assumption) ?_
              rotate_left
              · intro w hSw
                try dsimp only at hSw
                go_simp
                try with_reducible rfl
              try simp only [Act.put, List.setIfInBounds_toArray, List.set_cons_zero, List.set_cons_succ]
              refine wpAnyH_take (i := 4) (oi := { dst := some 55, op := _, type := _, pos := _, after := _, guard := _ }) (v := ?_) rfl (by kernel_rfl) (by kernel_rfl) (by kernel_rfl) (fun _ _ _ h => h) (Or.inl ⟨by rfl, ?_⟩) (by assumption) ?_
              rotate_left
              · intro w hSw
                try dsimp only at hSw
                go_simp
                try with_reducible rfl
              try simp only [Act.put, List.setIfInBounds_toArray, List.set_cons_zero, List.set_cons_succ]
              refine wpAnyH_take (i := 5) (oi := { dst := some 56, op := _, type := _, pos := _, after := _, guard := _ }) (v := ?_) rfl (by kernel_rfl) (by kernel_rfl) (by kernel_rfl) (fun _ _ _ h => h) (Or.inl ⟨by rfl, ?_⟩) (by assumption) ?_
              rotate_left
              · intro w hSw
                try dsimp only at hSw
                go_simp
                try with_reducible rfl
              try simp only [Act.put, List.setIfInBounds_toArray, List.set_cons_zero, List.set_cons_succ]
              refine wpAnyH_take (i := 6) (oi := { dst := some 57, op := _, type := _, pos := _, after := _, guard := _ }) (v := ?_) rfl (by kernel_rfl) (by kernel_rfl) (by kernel_rfl) (fun _ _ _ h => h) (Or.inl ⟨by rfl, ?_⟩) (by assumption) ?_
              rotate_left
              · intro w hSw
                try dsimp only at hSw
                go_simp
                try with_reducible rfl
              try simp only [Act.put, List.setIfInBounds_toArray, List.set_cons_zero, List.set_cons_succ]
              refine wpAnyH_take (i := 7) (oi := { dst := some 58, op := _, type := _, pos := _, after := _, guard := _ }) (v := ?_) rfl (by kernel_rfl) (by kernel_rfl) (by kernel_rfl) (fun _ _ _ h => h) (Or.inl ⟨by rfl, ?_⟩) (by assumption) ?_
              rotate_left
              · intro w hSw
                try dsimp only at hSw
                go_simp
                try with_reducible rfl
              try simp only [Act.put, List.setIfInBounds_toArray, List.set_cons_zero, List.set_cons_succ]
              refine wpAnyH_take (i := 8) (oi := { dst := some 59, op := _, type := _, pos := _, after := _, guard := _ }) (v := ?_) rfl (by kernel_rfl) (by kernel_rfl) (by kernel_rfl) (fun _ _ _ h => h) (Or.inl ⟨by rfl, ?_⟩) (by assumption) ?_
              rotate_left
              · intro w hSw
                try dsimp only at hSw
                go_simp
                try with_reducible rfl
              try simp only [Act.put, List.setIfInBounds_toArray, List.set_cons_zero, List.set_cons_succ]
              refine wpAnyH_ready (rs := [9]) (by kernel_rfl) (by simp) ?_
              refine AllReadyH.cons rfl (fun K hK => ?_) AllReadyH.nil
              go_simp
              refine (pseen W b g most A u xm false _ HP.out.p hu (by rw [HY.out]; exact hv)).mono ?_
              rintro e v1 ⟨rfl, _, hb⟩
              have HP := Lib.hid (HP.out.step hb)
              clear hb
              go_wp2_with fail
              refine hK.out _ _ ?_ (fun hHeld => ?_)
              · exact HSt.out _ HP.out.p.low HP.out.kx
              clear hK K
              try simp only [Act.put, List.setIfInBounds_toArray, List.set_cons_zero, List.set_cons_succ]
              refine wpAnyH_ready (rs := [10]) (by kernel_rfl) (by simp) ?_
              refine AllReadyH.cons rfl (fun K hK => ?_) AllReadyH.nil
              go_simp
              refine hK.out _ _ ?_ (fun hHeld => ?_)
              · exact HSt.out _ (HP.out.step (box_below _ (.cells #[.bool false] 4))).p.low (HP.out.step (box_below _ (.cells #[.bool false] 4))).kx
              clear hK K
              try simp only [Act.put, List.setIfInBounds_toArray, List.set_cons_zero, List.set_cons_succ]
              refine wpAnyH_ready (rs := [11]) (by kernel_rfl) (by simp) ?_
              refine AllReadyH.cons rfl (fun K hK => ?_) AllReadyH.nil
              refine step_push_b v1 HP.out.row _ _ false rfl rfl ?_ ?_ (by omega) HP.out.hi ?_
              · rfl
              · rfl
              intro v3 W3 hown3 hb3
              have HP3 := Lib.hid (HP.out.push hown3 hb3.out)
              clear hown3 hb3
              refine hK.out _ _ ?_ (fun hHeld => ?_)
              · exact HSt.out _ HP3.out.p.low HP3.out.kx
              clear hK K
              try simp only [Act.put, List.setIfInBounds_toArray, List.set_cons_zero, List.set_cons_succ]
              refine wpAnyH_take (i := 12) (oi := { dst := some 9, op := _, type := _, pos := _, after := _, guard := _ }) (v := ?_) rfl (by kernel_rfl) (by kernel_rfl) (by kernel_rfl) (fun _ _ _ h => h) (Or.inl ⟨by rfl, ?_⟩) (by assumption) ?_
              rotate_left
              · intro w hSw
                try dsimp only at hSw
                go_simp
                try with_reducible rfl
              try simp only [Act.put, List.setIfInBounds_toArray, List.set_cons_zero, List.set_cons_succ]
              refine wpAnyH_done (by kernel_rfl) ?_ _
              obtain ⟨ao3, cp3, e3, s31, s32, s33⟩ := HP3.out.shape
              subst e3
              obtain ⟨rb3, e4, hc3⟩ := s33 (by omega)
              subst e4
              have c3 := hc3 _ HP3.out.hi (fun _ _ _ => rfl) i (by omega)
              rw [last_at HLn.out] at c3
              unfold maxLen at s32
              clear S0 hc3 s33
              go_wp2_with fail
              go_roundw
              case rel => exact ⟨i + 1, bs ++ [false], by omega, by go_num, HN1, HP3⟩
              case measure => simp [intOf]; omega
            | true =>
              have HN1 := Lib.hid (sawL_next hlt HC.out hv HBs.out)
              go_wp2_with fail
              have HP := Lib.hid (HP.out.step (Below.refl _ _).drew)
              have S0 := HSt.out _ HP.out.p.low HP.out.kx
              refine wp_region_held_drew (S := fun V => V.cell? ⟨W.heap.size, 3, none⟩ = some (.int .i64 xm) ∧ V.cell? ⟨lb, lw + i * 4 + 1, none⟩ = some (.string u)) (by kernel_rfl) (S0) (fun hS => ?_)
              refine wpAnyH_take (i := 0) (oi := { dst := some 51, op := _, type := _, pos := _, after := _, guard := _ }) (v := ?_) rfl (by kernel_rfl) (by kernel_rfl) (by kernel_rfl) (fun _ _ _ h => h) (Or.inl ⟨by rfl, ?_⟩) (by assumption) ?_
              rotate_left
              · intro w hSw
                try dsimp only at hSw
                go_simp
                try with_reducible rfl
              try simp only [Act.put, List.setIfInBounds_toArray, List.set_cons_zero, List.set_cons_succ]
              refine wpAnyH_take (i := 1) (oi := { dst := some 52, op := _, type := _, pos := _, after := _, guard := _ }) (v := ?_) rfl (by kernel_rfl) (by kernel_rfl) (by kernel_rfl) (fun _ _ _ h => h) (Or.inl ⟨by rfl, ?_⟩) (by assumption) ?_
              rotate_left
              · intro w hSw
                try dsimp only at hSw
                go_simp
                try with_reducible rfl
              try simp only [Act.put, List.setIfInBounds_toArray, List.set_cons_zero, List.set_cons_succ]
              refine wpAnyH_take (i := 2) (oi := { dst := some 53, op := _, type := _, pos := _, after := _, guard := _ }) (v := ?_) rfl (by kernel_rfl) (by kernel_rfl) (by kernel_rfl) (fun _ _ _ h => h) (Or.inl ⟨by rfl, ?_⟩) (by assumption) ?_
              rotate_left
              · intro w hSw
                try dsimp only at hSw
                go_simp
                try with_reducible rfl
              try simp only [Act.put, List.setIfInBounds_toArray, List.set_cons_zero, List.set_cons_succ]
              refine wpAnyH_take (i := 3) (oi := { dst := some 54, op := _, type := _, pos := _, after := _, guard := _ }) (v := ?_) rfl (by kernel_rfl) (by kernel_rfl) (by kernel_rfl) (fun _ _ _ h => h) (Or.inl ⟨by rfl, ?_⟩) (by assumption) ?_
              rotate_left
              · intro w hSw
                try dsimp only at hSw
                go_simp
                try with_reducible rfl
              try simp only [Act.put, List.setIfInBounds_toArray, List.set_cons_zero, List.set_cons_succ]
              refine wpAnyH_take (i := 4) (oi := { dst := some 55, op := _, type := _, pos := _, after := _, guard := _ }) (v := ?_) rfl (by kernel_rfl) (by kernel_rfl) (by kernel_rfl) (fun _ _ _ h => h) (Or.inl ⟨by rfl, ?_⟩) (by assumption) ?_
              rotate_left
              · intro w hSw
                try dsimp only at hSw
                go_simp
                try with_reducible rfl
              try simp only [Act.put, List.setIfInBounds_toArray, List.set_cons_zero, List.set_cons_succ]
              refine wpAnyH_take (i := 5) (oi := { dst := some 56, op := _, type := _, pos := _, after := _, guard := _ }) (v := ?_) rfl (by kernel_rfl) (by kernel_rfl) (by kernel_rfl) (fun _ _ _ h => h) (Or.inl ⟨by rfl, ?_⟩) (by assumption) ?_
              rotate_left
              · intro w hSw
                try dsimp only at hSw
                go_simp
                try with_reducible rfl
              try simp only [Act.put, List.setIfInBounds_toArray, List.set_cons_zero, List.set_cons_succ]
              refine wpAnyH_take (i := 6) (oi := { dst := some 57, op := _, type := _, pos := _, after := _, guard := _ }) (v := ?_) rfl (by kernel_rfl) (by kernel_rfl) (by kernel_rfl) (fun _ _ _ h => h) (Or.inl ⟨by rfl, ?_⟩) (by assumption) ?_
              rotate_left
              · intro w hSw
                try dsimp only at hSw
                go_simp
                try with_reducible rfl
              try simp only [Act.put, List.setIfInBounds_toArray, List.set_cons_zero, List.set_cons_succ]
              refine wpAnyH_take (i := 7) (oi := { dst := some 58, op := _, type := _, pos := _, after := _, guard := _ }) (v := ?_) rfl (by kernel_rfl) (by kernel_rfl) (by kernel_rfl) (fun _ _ _ h => h) (Or.inl ⟨by rfl, ?_⟩) (by assumption) ?_
              rotate_left
              · intro w hSw
                try dsimp only at hSw
                go_simp
                try with_reducible rfl
              try simp only [Act.put, List.setIfInBounds_toArray, List.set_cons_zero, List.set_cons_succ]
              refine wpAnyH_take (i := 8) (oi := { dst := some 59, op := _, type := _, pos := _, after := _, guard := _ }) (v := ?_) rfl (by kernel_rfl) (by kernel_rfl) (by kernel_rfl) (fun _ _ _ h => h) (Or.inl ⟨by rfl, ?_⟩) (by assumption) ?_
              rotate_left
              · intro w hSw
                try dsimp only at hSw
                go_simp
                try with_reducible rfl
              try simp only [Act.put, List.setIfInBounds_toArray, List.set_cons_zero, List.set_cons_succ]
              refine wpAnyH_ready (rs := [9]) (by kernel_rfl) (by simp) ?_
              refine AllReadyH.cons rfl (fun K hK => ?_) AllReadyH.nil
              go_simp
              refine (pseen W b g most A u xm true _ HP.out.p hu (by rw [HY.out]; exact hv)).mono ?_
              rintro e v1 ⟨rfl, _, hb⟩
              have HP := Lib.hid (HP.out.step hb)
              clear hb
              go_wp2_with fail
              refine hK.out _ _ ?_ (fun hHeld => ?_)
              · exact HSt.out _ HP.out.p.low HP.out.kx
              clear hK K
              try simp only [Act.put, List.setIfInBounds_toArray, List.set_cons_zero, List.set_cons_succ]
              refine wpAnyH_ready (rs := [10]) (by kernel_rfl) (by simp) ?_
              refine AllReadyH.cons rfl (fun K hK => ?_) AllReadyH.nil
              go_simp
              refine hK.out _ _ ?_ (fun hHeld => ?_)
              · exact HSt.out _ (HP.out.step (box_below _ (.cells #[.bool true] 4))).p.low (HP.out.step (box_below _ (.cells #[.bool true] 4))).kx
              clear hK K
              try simp only [Act.put, List.setIfInBounds_toArray, List.set_cons_zero, List.set_cons_succ]
              refine wpAnyH_ready (rs := [11]) (by kernel_rfl) (by simp) ?_
              refine AllReadyH.cons rfl (fun K hK => ?_) AllReadyH.nil
              refine step_push_b v1 HP.out.row _ _ true rfl rfl ?_ ?_ (by omega) HP.out.hi ?_
              · rfl
              · rfl
              intro v3 W3 hown3 hb3
              have HP3 := Lib.hid (HP.out.push hown3 hb3.out)
              clear hown3 hb3
              refine hK.out _ _ ?_ (fun hHeld => ?_)
              · exact HSt.out _ HP3.out.p.low HP3.out.kx
              clear hK K
              try simp only [Act.put, List.setIfInBounds_toArray, List.set_cons_zero, List.set_cons_succ]
              refine wpAnyH_take (i := 12) (oi := { dst := some 9, op := _, type := _, pos := _, after := _, guard := _ }) (v := ?_) rfl (by kernel_rfl) (by kernel_rfl) (by kernel_rfl) (fun _ _ _ h => h) (Or.inl ⟨by rfl, ?_⟩) (by assumption) ?_
              rotate_left
              · intro w hSw
                try dsimp only at hSw
                go_simp
                try with_reducible rfl
              try simp only [Act.put, List.setIfInBounds_toArray, List.set_cons_zero, List.set_cons_succ]
              refine wpAnyH_done (by kernel_rfl) ?_ _
              obtain ⟨ao3, cp3, e3, s31, s32, s33⟩ := HP3.out.shape
              subst e3
              obtain ⟨rb3, e4, hc3⟩ := s33 (by omega)
              subst e4
              have c3 := hc3 _ HP3.out.hi (fun _ _ _ => rfl) i (by omega)
              rw [last_at HLn.out] at c3
              unfold maxLen at s32
              clear S0 hc3 s33
              have c1 := (HSt.out _ HP3.out.p.low HP3.out.kx).2
              have HWd := Lib.hid (at_word HP3.out.p.ox.ok HYb.out.1 (of_decide_eq_true hv))
              go_wp2_with fail
              refine (word_k u true _ hu HWd.out).mono ?_
              rintro e w' ⟨rfl, rfl⟩
              go_wp2_with fail
              go_roundw
              case rel => exact ⟨i + 1, bs ++ [true], by omega, by go_num, HN1, HP3⟩
              case measure => simp [intOf]; omega
          · obtain rfl : i = ll.length := by omega
            obtain ⟨⟨r1, A1⟩, hr1⟩ : ∃ z, useP most A xu (limI xx) (limI xm) = z := ⟨_, rfl⟩
            have HR1 := Lib.hid hr1
            have HAp := Lib.hid (fun (v : ByteArray) (e : v ≠ xu) => use_apart (most := most) HP.out.p.ox.ok (limI xx) (limI xm) (limI_bd xm).1 e)
            rw [hr1] at HAp
            clear hr1
            obtain ⟨b0, b1, b2, b3⟩ := HXc.out _ HP.out.kx
            go_wp2_with fail
            refine (puse W b g most A A1 xu xx xm r1 _ HP.out.p hxu HR1.out).mono ?_
            rintro e w6 ⟨rfl, hp, hg⟩
            have HP := Lib.hid (HP.out.use hp hg)
            clear hp hg b0 b1 b2 b3
            obtain ⟨ao, cp, ev, _, _, _⟩ := HP.out.shape
            subst ev
            go_wp2_with fail
            go_loopw [11] (fun iv wr => ∃ (i : Nat), i ≤ ll.length ∧ iv = .int .i64 i ∧ Hid (PB W b g most A1 W.heap.size (ocO xk xu xx xm) base (.slice ao ll.length cp) ll.length bs wr)) (fun iv _ => ll.length - (intOf iv).toNat)
            case atStart => exact ⟨0, Nat.zero_le _, rfl, HP⟩
            case round =>
              clear HP
              obtain ⟨i, hi, rfl, HP⟩ := hrel
              by_cases hlt : i < ll.length
              · have di : (i : Int) < (ll.length : Int) := by omega
                obtain ⟨lb, lw, hla, _⟩ := HL.out.2.2.2.1 (by omega)
                subst hla
                have hu := HZ.out i hlt
                obtain ⟨⟨q, u, x, m⟩, hc⟩ : ∃ c, ocA ll i = c := ⟨_, rfl⟩
                have HC := Lib.hid hc
                have HCs := Lib.hid (fun V (hV : Below W.heap.size W V) => HL.out.cells hlt hc hV)
                rw [hc] at hu
                dsimp only at hu
                clear hc
                have hu : u.size ≤ 1000000000 := Nat.le_trans hu (by decide)
                by_cases he : u = xu
                · subst he
                  obtain ⟨q1, q2⟩ := str_eq u
                  have HSt : Hid (∀ V, Below W.heap.size W V → KbC V W.heap.size (ocO xk u xx xm) → V.cell? ⟨W.heap.size, 1, none⟩ = some (.string u) ∧ V.cell? ⟨lb, lw + i * 4 + 1, none⟩ = some (.string u)) :=
                    Lib.hid fun V hV hk => ⟨(HXc.out V hk).2.1, (HCs.out V hV).2.1⟩
                  go_wp2_with fail
                  have HP := Lib.hid (HP.out.step (Below.refl _ _).drew)
                  have S0 := HSt.out _ HP.out.p.low HP.out.kx
                  refine wp_region_held_drew (S := fun V => V.cell? ⟨W.heap.size, 1, none⟩ = some (.string u) ∧ V.cell? ⟨lb, lw + i * 4 + 1, none⟩ = some (.string u)) (by kernel_rfl) (S0) (fun hS => ?_)
                  refine wpAnyH_take (i := 0) (oi := { dst := some 90, op := _, type := _, pos := _, after := _, guard := _ }) (v := ?_) rfl (by kernel_rfl) (by kernel_rfl) (by kernel_rfl) (fun _ _ _ h => h) (Or.inl ⟨by rfl, ?_⟩) (by assumption) ?_
                  rotate_left
                  · intro w hSw
                    try dsimp only at hSw
                    go_simp
                    try with_reducible rfl
                  try simp only [Act.put, List.setIfInBounds_toArray, List.set_cons_zero, List.set_cons_succ]
                  refine wpAnyH_take (i := 1) (oi := { dst := some 91, op := _, type := _, pos := _, after := _, guard := _ }) (v := ?_) rfl (by kernel_rfl) (by kernel_rfl) (by kernel_rfl) (fun _ _ _ h => h) (Or.inl ⟨by rfl, ?_⟩) (by assumption) ?_
                  rotate_left
                  · intro w hSw
                    try dsimp only at hSw
                    go_simp
                    try with_reducible rfl
                  try simp only [Act.put, List.setIfInBounds_toArray, List.set_cons_zero, List.set_cons_succ]
                  refine wpAnyH_take (i := 2) (oi := { dst := some 92, op := _, type := _, pos := _, after := _, guard := _ }) (v := ?_) rfl (by kernel_rfl) (by kernel_rfl) (by kernel_rfl) (fun _ _ _ h => h) (Or.inl ⟨by rfl, ?_⟩) (by assumption) ?_
                  rotate_left
                  · intro w hSw
                    try dsimp only at hSw
                    go_simp
                    try with_reducible rfl
                  try simp only [Act.put, List.setIfInBounds_toArray, List.set_cons_zero, List.set_cons_succ]
                  refine wpAnyH_take (i := 3) (oi := { dst := some 93, op := _, type := _, pos := _, after := _, guard := _ }) (v := ?_) rfl (by kernel_rfl) (by kernel_rfl) (by kernel_rfl) (fun _ _ _ h => h) (Or.inl ⟨by rfl, ?_⟩) (by assumption) ?_
                  rotate_left
                  · intro w hSw
                    try dsimp only at hSw
                    go_simp
                    try with_reducible rfl
                  try simp only [Act.put, List.setIfInBounds_toArray, List.set_cons_zero, List.set_cons_succ]
                  refine wpAnyH_take (i := 4) (oi := { dst := some 94, op := _, type := _, pos := _, after := _, guard := _ }) (v := ?_) rfl (by kernel_rfl) (by kernel_rfl) (by kernel_rfl) (fun _ _ _ h => h) (Or.inl ⟨by rfl, ?_⟩) (by assumption) ?_
                  rotate_left
                  · intro w hSw
                    try dsimp only at hSw
                    go_simp
                    try with_reducible rfl
                  try simp only [Act.put, List.setIfInBounds_toArray, List.set_cons_zero, List.set_cons_succ]
                  refine wpAnyH_take (i := 5) (oi := { dst := some 95, op := _, type := _, pos := _, after := _, guard := _ }) (v := ?_) rfl (by kernel_rfl) (by kernel_rfl) (by kernel_rfl) (fun _ _ _ h => h) (Or.inl ⟨by rfl, ?_⟩) (by assumption) ?_
                  rotate_left
                  · intro w hSw
                    try dsimp only at hSw
                    go_simp
                    try with_reducible rfl
                  try simp only [Act.put, List.setIfInBounds_toArray, List.set_cons_zero, List.set_cons_succ]
                  refine wpAnyH_take (i := 6) (oi := { dst := some 96, op := _, type := _, pos := _, after := _, guard := _ }) (v := ?_) rfl (by kernel_rfl) (by kernel_rfl) (by kernel_rfl) (fun _ _ _ h => h) (Or.inl ⟨by rfl, ?_⟩) (by assumption) ?_
                  rotate_left
                  · intro w hSw
                    try dsimp only at hSw
                    go_simp
                    try with_reducible rfl
                  try simp only [Act.put, List.setIfInBounds_toArray, List.set_cons_zero, List.set_cons_succ]
                  refine wpAnyH_take (i := 7) (oi := { dst := some 97, op := _, type := _, pos := _, after := _, guard := _ }) (v := ?_) rfl (by kernel_rfl) (by kernel_rfl) (by kernel_rfl) (fun _ _ _ h => h) (Or.inl ⟨by rfl, ?_⟩) (by assumption) ?_
                  rotate_left
                  · intro w hSw
                    try dsimp only at hSw
                    go_simp
                    try with_reducible rfl
                  try simp only [Act.put, List.setIfInBounds_toArray, List.set_cons_zero, List.set_cons_succ]
                  refine wpAnyH_take (i := 8) (oi := { dst := some 98, op := _, type := _, pos := _, after := _, guard := _ }) (v := ?_) rfl (by kernel_rfl) (by kernel_rfl) (by kernel_rfl) (fun _ _ _ h => h) (Or.inl ⟨by rfl, ?_⟩) (by assumption) ?_
                  rotate_left
                  · intro w hSw
                    try dsimp only at hSw
                    go_simp
                    try with_reducible rfl
                  try simp only [Act.put, List.setIfInBounds_toArray, List.set_cons_zero, List.set_cons_succ]
                  refine wpAnyH_take (i := 9) (oi := { dst := some 99, op := _, type := _, pos := _, after := _, guard := _ }) (v := undef) rfl (by kernel_rfl) (by kernel_rfl) (by kernel_rfl) (fun _ _ _ h => h) (Or.inr ⟨by rfl, rfl⟩) (by assumption) ?_
                  try simp only [Act.put, List.setIfInBounds_toArray, List.set_cons_zero, List.set_cons_succ]
                  refine wpAnyH_take (i := 10) (oi := { dst := some 100, op := _, type := _, pos := _, after := _, guard := _ }) (v := undef) rfl (by kernel_rfl) (by kernel_rfl) (by kernel_rfl) (fun _ _ _ h => h) (Or.inr ⟨by rfl, rfl⟩) (by assumption) ?_
                  try simp only [Act.put, List.setIfInBounds_toArray, List.set_cons_zero, List.set_cons_succ]
                  refine wpAnyH_take (i := 11) (oi := { dst := some 101, op := _, type := _, pos := _, after := _, guard := _ }) (v := undef) rfl (by kernel_rfl) (by kernel_rfl) (by kernel_rfl) (fun _ _ _ h => h) (Or.inr ⟨by rfl, rfl⟩) (by assumption) ?_
                  try simp only [Act.put, List.setIfInBounds_toArray, List.set_cons_zero, List.set_cons_succ]
                  refine wpAnyH_take (i := 12) (oi := { dst := some 102, op := _, type := _, pos := _, after := _, guard := _ }) (v := undef) rfl (by kernel_rfl) (by kernel_rfl) (by kernel_rfl) (fun _ _ _ h => h) (Or.inr ⟨by rfl, rfl⟩) (by assumption) ?_
                  try simp only [Act.put, List.setIfInBounds_toArray, List.set_cons_zero, List.set_cons_succ]
                  refine wpAnyH_take (i := 13) (oi := { dst := some 103, op := _, type := _, pos := _, after := _, guard := _ }) (v := undef) rfl (by kernel_rfl) (by kernel_rfl) (by kernel_rfl) (fun _ _ _ h => h) (Or.inr ⟨by rfl, rfl⟩) (by assumption) ?_
                  try simp only [Act.put, List.setIfInBounds_toArray, List.set_cons_zero, List.set_cons_succ]
                  refine wpAnyH_take (i := 14) (oi := { dst := some 104, op := _, type := _, pos := _, after := _, guard := _ }) (v := undef) rfl (by kernel_rfl) (by kernel_rfl) (by kernel_rfl) (fun _ _ _ h => h) (Or.inr ⟨by rfl, rfl⟩) (by assumption) ?_
                  try simp only [Act.put, List.setIfInBounds_toArray, List.set_cons_zero, List.set_cons_succ]
                  refine wpAnyH_take (i := 15) (oi := { dst := some 105, op := _, type := _, pos := _, after := _, guard := _ }) (v := undef) rfl (by kernel_rfl) (by kernel_rfl) (by kernel_rfl) (fun _ _ _ h => h) (Or.inr ⟨by rfl, rfl⟩) (by assumption) ?_
                  try simp only [Act.put, List.setIfInBounds_toArray, List.set_cons_zero, List.set_cons_succ]
                  refine wpAnyH_take (i := 16) (oi := { dst := some 106, op := _, type := _, pos := _, after := _, guard := _ }) (v := undef) rfl (by kernel_rfl) (by kernel_rfl) (by kernel_rfl) (fun _ _ _ h => h) (Or.inr ⟨by rfl, rfl⟩) (by assumption) ?_
                  try simp only [Act.put, List.setIfInBounds_toArray, List.set_cons_zero, List.set_cons_succ]
                  refine wpAnyH_take (i := 17) (oi := { dst := some 107, op := _, type := _, pos := _, after := _, guard := _ }) (v := undef) rfl (by kernel_rfl) (by kernel_rfl) (by kernel_rfl) (fun _ _ _ h => h) (Or.inr ⟨by rfl, rfl⟩) (by assumption) ?_
                  try simp only [Act.put, List.setIfInBounds_toArray, List.set_cons_zero, List.set_cons_succ]
                  refine wpAnyH_take (i := 18) (oi := { dst := some 108, op := _, type := _, pos := _, after := _, guard := _ }) (v := undef) rfl (by kernel_rfl) (by kernel_rfl) (by kernel_rfl) (fun _ _ _ h => h) (Or.inr ⟨by rfl, rfl⟩) (by assumption) ?_
                  try simp only [Act.put, List.setIfInBounds_toArray, List.set_cons_zero, List.set_cons_succ]
                  refine wpAnyH_take (i := 19) (oi := { dst := some 109, op := _, type := _, pos := _, after := _, guard := _ }) (v := undef) rfl (by kernel_rfl) (by kernel_rfl) (by kernel_rfl) (fun _ _ _ h => h) (Or.inr ⟨by rfl, rfl⟩) (by assumption) ?_
                  try simp only [Act.put, List.setIfInBounds_toArray, List.set_cons_zero, List.set_cons_succ]
                  refine wpAnyH_take (i := 20) (oi := { dst := some 110, op := _, type := _, pos := _, after := _, guard := _ }) (v := undef) rfl (by kernel_rfl) (by kernel_rfl) (by kernel_rfl) (fun _ _ _ h => h) (Or.inr ⟨by rfl, rfl⟩) (by assumption) ?_
                  try simp only [Act.put, List.setIfInBounds_toArray, List.set_cons_zero, List.set_cons_succ]
                  refine wpAnyH_take (i := 21) (oi := { dst := some 111, op := _, type := _, pos := _, after := _, guard := _ }) (v := undef) rfl (by kernel_rfl) (by kernel_rfl) (by kernel_rfl) (fun _ _ _ h => h) (Or.inr ⟨by rfl, rfl⟩) (by assumption) ?_
                  try simp only [Act.put, List.setIfInBounds_toArray, List.set_cons_zero, List.set_cons_succ]
                  refine wpAnyH_take (i := 22) (oi := { dst := some 112, op := _, type := _, pos := _, after := _, guard := _ }) (v := undef) rfl (by kernel_rfl) (by kernel_rfl) (by kernel_rfl) (fun _ _ _ h => h) (Or.inr ⟨by rfl, rfl⟩) (by assumption) ?_
                  try simp only [Act.put, List.setIfInBounds_toArray, List.set_cons_zero, List.set_cons_succ]
                  refine wpAnyH_take (i := 23) (oi := { dst := some 113, op := _, type := _, pos := _, after := _, guard := _ }) (v := ?_) rfl (by kernel_rfl) (by kernel_rfl) (by kernel_rfl) (fun _ _ _ h => h) (Or.inl ⟨by rfl, ?_⟩) (by assumption) ?_
                  rotate_left
                  · intro w hSw
                    try dsimp only at hSw
                    go_simp
                    try with_reducible rfl
                  try simp only [Act.put, List.setIfInBounds_toArray, List.set_cons_zero, List.set_cons_succ]
                  refine wpAnyH_done (by kernel_rfl) ?_ _
                  go_wp2_with fail
                  go_roundw
                  case rel => exact ⟨i + 1, by omega, by go_num, HP⟩
                  case measure => simp [intOf]; omega
                · obtain ⟨q1, q2⟩ := str_ne he
                  obtain ⟨v, hv⟩ : ∃ v, decide (y < atA A u) = v := ⟨_, rfl⟩
                  have hbv := sawL_at hlt HC.out hv HBs.out
                  have HV2 := Lib.hid (dec_iff (HAp.out u he) (show decide (limI xm < atA A u) = v by rw [HY.out]; exact hv))
                  have fv : ((v : Bool) != v) = false := bne_self_eq_false _
                  have HP := Lib.hid (HP.out.step (Below.refl _ _).drew)
                  obtain ⟨ao', cp', e', s1, s2, s3⟩ := HP.out.shape
                  cases e'
                  obtain ⟨rb, e4, hc3⟩ := s3 (by omega)
                  subst e4
                  have HSt : Hid (∀ V, Below W.heap.size W V → KbC V W.heap.size (ocO xk xu xx xm) → Below wr.drew.heap.size wr.drew V → V.cell? ⟨W.heap.size, 1, none⟩ = some (.string xu) ∧ V.cell? ⟨W.heap.size, 3, none⟩ = some (.int .i64 xm) ∧ V.cell? ⟨lb, lw + i * 4 + 1, none⟩ = some (.string u) ∧ V.cell? ⟨rb, i, none⟩ = some (.bool v)) :=
                    Lib.hid fun V hV hk hb => ⟨(HXc.out V hk).2.1, (HXc.out V hk).2.2.2, (HCs.out V hV).2.1, by
                      have := hc3 V HP.out.hi (fun j _ h2 => hb.block j h2) i hlt
                      rw [hbv] at this; exact this⟩
                  unfold maxLen at s2
                  have HBl := Lib.hid (Below.refl wr.drew.heap.size wr.drew)
                  have S0 := HSt.out _ HP.out.p.low HP.out.kx HBl.out
                  clear hv hbv hc3 s3
                  go_wp2_with fail
                  refine wp_region_held_drew (S := fun V => V.cell? ⟨W.heap.size, 1, none⟩ = some (.string xu) ∧ V.cell? ⟨W.heap.size, 3, none⟩ = some (.int .i64 xm) ∧ V.cell? ⟨lb, lw + i * 4 + 1, none⟩ = some (.string u) ∧ V.cell? ⟨rb, i, none⟩ = some (.bool v)) (by kernel_rfl) (S0) (fun hS => ?_)
                  refine wpAnyH_take (i := 0) (oi := { dst := some 90, op := _, type := _, pos := _, after := _, guard := _ }) (v := ?_) rfl (by kernel_rfl) (by kernel_rfl) (by kernel_rfl) (fun _ _ _ h => h) (Or.inl ⟨by rfl, ?_⟩) (by assumption) ?_
                  rotate_left
                  · intro w hSw
                    try dsimp only at hSw
                    go_simp
                    try with_reducible rfl
                  try simp only [Act.put, List.setIfInBounds_toArray, List.set_cons_zero, List.set_cons_succ]
                  refine wpAnyH_take (i := 1) (oi := { dst := some 91, op := _, type := _, pos := _, after := _, guard := _ }) (v := ?_) rfl (by kernel_rfl) (by kernel_rfl) (by kernel_rfl) (fun _ _ _ h => h) (Or.inl ⟨by rfl, ?_⟩) (by assumption) ?_
                  rotate_left
                  · intro w hSw
                    try dsimp only at hSw
                    go_simp
                    try with_reducible rfl
                  try simp only [Act.put, List.setIfInBounds_toArray, List.set_cons_zero, List.set_cons_succ]
                  refine wpAnyH_take (i := 2) (oi := { dst := some 92, op := _, type := _, pos := _, after := _, guard := _ }) (v := ?_) rfl (by kernel_rfl) (by kernel_rfl) (by kernel_rfl) (fun _ _ _ h => h) (Or.inl ⟨by rfl, ?_⟩) (by assumption) ?_
                  rotate_left
                  · intro w hSw
                    try dsimp only at hSw
                    go_simp
                    try with_reducible rfl
                  try simp only [Act.put, List.setIfInBounds_toArray, List.set_cons_zero, List.set_cons_succ]
                  refine wpAnyH_take (i := 3) (oi := { dst := some 93, op := _, type := _, pos := _, after := _, guard := _ }) (v := ?_) rfl (by kernel_rfl) (by kernel_rfl) (by kernel_rfl) (fun _ _ _ h => h) (Or.inl ⟨by rfl, ?_⟩) (by assumption) ?_
                  rotate_left
                  · intro w hSw
                    try dsimp only at hSw
                    go_simp
                    try with_reducible rfl
                  try simp only [Act.put, List.setIfInBounds_toArray, List.set_cons_zero, List.set_cons_succ]
                  refine wpAnyH_take (i := 4) (oi := { dst := some 94, op := _, type := _, pos := _, after := _, guard := _ }) (v := ?_) rfl (by kernel_rfl) (by kernel_rfl) (by kernel_rfl) (fun _ _ _ h => h) (Or.inl ⟨by rfl, ?_⟩) (by assumption) ?_
                  rotate_left
                  · intro w hSw
                    try dsimp only at hSw
                    go_simp
                    try with_reducible rfl
                  try simp only [Act.put, List.setIfInBounds_toArray, List.set_cons_zero, List.set_cons_succ]
                  refine wpAnyH_take (i := 5) (oi := { dst := some 95, op := _, type := _, pos := _, after := _, guard := _ }) (v := ?_) rfl (by kernel_rfl) (by kernel_rfl) (by kernel_rfl) (fun _ _ _ h => h) (Or.inl ⟨by rfl, ?_⟩) (by assumption) ?_
                  rotate_left
                  · intro w hSw
                    try dsimp only at hSw
                    go_simp
                    try with_reducible rfl
                  try simp only [Act.put, List.setIfInBounds_toArray, List.set_cons_zero, List.set_cons_succ]
                  refine wpAnyH_take (i := 6) (oi := { dst := some 96, op := _, type := _, pos := _, after := _, guard := _ }) (v := ?_) rfl (by kernel_rfl) (by kernel_rfl) (by kernel_rfl) (fun _ _ _ h => h) (Or.inl ⟨by rfl, ?_⟩) (by assumption) ?_
                  rotate_left
                  · intro w hSw
                    try dsimp only at hSw
                    go_simp
                    try with_reducible rfl
                  try simp only [Act.put, List.setIfInBounds_toArray, List.set_cons_zero, List.set_cons_succ]
                  refine wpAnyH_take (i := 7) (oi := { dst := some 97, op := _, type := _, pos := _, after := _, guard := _ }) (v := ?_) rfl (by kernel_rfl) (by kernel_rfl) (by kernel_rfl) (fun _ _ _ h => h) (Or.inl ⟨by rfl, ?_⟩) (by assumption) ?_
                  rotate_left
                  · intro w hSw
                    try dsimp only at hSw
                    go_simp
                    try with_reducible rfl
                  try simp only [Act.put, List.setIfInBounds_toArray, List.set_cons_zero, List.set_cons_succ]
                  refine wpAnyH_take (i := 8) (oi := { dst := some 98, op := _, type := _, pos := _, after := _, guard := _ }) (v := ?_) rfl (by kernel_rfl) (by kernel_rfl) (by kernel_rfl) (fun _ _ _ h => h) (Or.inl ⟨by rfl, ?_⟩) (by assumption) ?_
                  rotate_left
                  · intro w hSw
                    try dsimp only at hSw
                    go_simp
                    try with_reducible rfl
                  try simp only [Act.put, List.setIfInBounds_toArray, List.set_cons_zero, List.set_cons_succ]
                  refine wpAnyH_take (i := 9) (oi := { dst := some 99, op := _, type := _, pos := _, after := _, guard := _ }) (v := ?_) rfl (by kernel_rfl) (by kernel_rfl) (by kernel_rfl) (fun _ _ _ h => h) (Or.inl ⟨by rfl, ?_⟩) (by assumption) ?_
                  rotate_left
                  · intro w hSw
                    try dsimp only at hSw
                    go_simp
                    try with_reducible rfl
                  try simp only [Act.put, List.setIfInBounds_toArray, List.set_cons_zero, List.set_cons_succ]
                  refine wpAnyH_take (i := 10) (oi := { dst := some 100, op := _, type := _, pos := _, after := _, guard := _ }) (v := ?_) rfl (by kernel_rfl) (by kernel_rfl) (by kernel_rfl) (fun _ _ _ h => h) (Or.inl ⟨by rfl, ?_⟩) (by assumption) ?_
                  rotate_left
                  · intro w hSw
                    try dsimp only at hSw
                    go_simp
                    try with_reducible rfl
                  try simp only [Act.put, List.setIfInBounds_toArray, List.set_cons_zero, List.set_cons_succ]
                  refine wpAnyH_take (i := 11) (oi := { dst := some 101, op := _, type := _, pos := _, after := _, guard := _ }) (v := ?_) rfl (by kernel_rfl) (by kernel_rfl) (by kernel_rfl) (fun _ _ _ h => h) (Or.inl ⟨by rfl, ?_⟩) (by assumption) ?_
                  rotate_left
                  · intro w hSw
                    try dsimp only at hSw
                    go_simp
                    try with_reducible rfl
                  try simp only [Act.put, List.setIfInBounds_toArray, List.set_cons_zero, List.set_cons_succ]
                  refine wpAnyH_take (i := 12) (oi := { dst := some 102, op := _, type := _, pos := _, after := _, guard := _ }) (v := ?_) rfl (by kernel_rfl) (by kernel_rfl) (by kernel_rfl) (fun _ _ _ h => h) (Or.inl ⟨by rfl, ?_⟩) (by assumption) ?_
                  rotate_left
                  · intro w hSw
                    try dsimp only at hSw
                    go_simp
                    try with_reducible rfl
                  try simp only [Act.put, List.setIfInBounds_toArray, List.set_cons_zero, List.set_cons_succ]
                  refine wpAnyH_take (i := 13) (oi := { dst := some 103, op := _, type := _, pos := _, after := _, guard := _ }) (v := ?_) rfl (by kernel_rfl) (by kernel_rfl) (by kernel_rfl) (fun _ _ _ h => h) (Or.inl ⟨by rfl, ?_⟩) (by assumption) ?_
                  rotate_left
                  · intro w hSw
                    try dsimp only at hSw
                    go_simp
                    try with_reducible rfl
                  try simp only [Act.put, List.setIfInBounds_toArray, List.set_cons_zero, List.set_cons_succ]
                  refine wpAnyH_take (i := 14) (oi := { dst := some 104, op := _, type := _, pos := _, after := _, guard := _ }) (v := ?_) rfl (by kernel_rfl) (by kernel_rfl) (by kernel_rfl) (fun _ _ _ h => h) (Or.inl ⟨by rfl, ?_⟩) (by assumption) ?_
                  rotate_left
                  · intro w hSw
                    try dsimp only at hSw
                    go_simp
                    try with_reducible rfl
                  try simp only [Act.put, List.setIfInBounds_toArray, List.set_cons_zero, List.set_cons_succ]
                  refine wpAnyH_take (i := 15) (oi := { dst := some 105, op := _, type := _, pos := _, after := _, guard := _ }) (v := ?_) rfl (by kernel_rfl) (by kernel_rfl) (by kernel_rfl) (fun _ _ _ h => h) (Or.inl ⟨by rfl, ?_⟩) (by assumption) ?_
                  rotate_left
                  · intro w hSw
                    try dsimp only at hSw
                    go_simp
                    try with_reducible rfl
                  try simp only [Act.put, List.setIfInBounds_toArray, List.set_cons_zero, List.set_cons_succ]
                  refine wpAnyH_take (i := 16) (oi := { dst := some 106, op := _, type := _, pos := _, after := _, guard := _ }) (v := ?_) rfl (by kernel_rfl) (by kernel_rfl) (by kernel_rfl) (fun _ _ _ h => h) (Or.inl ⟨by rfl, ?_⟩) (by assumption) ?_
                  rotate_left
                  · intro w hSw
                    try dsimp only at hSw
                    go_simp
                    try with_reducible rfl
                  try simp only [Act.put, List.setIfInBounds_toArray, List.set_cons_zero, List.set_cons_succ]
                  refine wpAnyH_take (i := 18) (oi := { dst := some 108, op := _, type := _, pos := _, after := _, guard := _ }) (v := ?_) rfl (by kernel_rfl) (by kernel_rfl) (by kernel_rfl) (fun _ _ _ h => h) (Or.inl ⟨by rfl, ?_⟩) (by assumption) ?_
                  rotate_left
                  · intro w hSw
                    try dsimp only at hSw
                    go_simp
                    try with_reducible rfl
                  try simp only [Act.put, List.setIfInBounds_toArray, List.set_cons_zero, List.set_cons_succ]
                  refine wpAnyH_take (i := 19) (oi := { dst := some 109, op := _, type := _, pos := _, after := _, guard := _ }) (v := ?_) rfl (by kernel_rfl) (by kernel_rfl) (by kernel_rfl) (fun _ _ _ h => h) (Or.inl ⟨by rfl, ?_⟩) (by assumption) ?_
                  rotate_left
                  · intro w hSw
                    try dsimp only at hSw
                    go_simp
                    try with_reducible rfl
                  try simp only [Act.put, List.setIfInBounds_toArray, List.set_cons_zero, List.set_cons_succ]
                  refine wpAnyH_take (i := 20) (oi := { dst := some 110, op := _, type := _, pos := _, after := _, guard := _ }) (v := ?_) rfl (by kernel_rfl) (by kernel_rfl) (by kernel_rfl) (fun _ _ _ h => h) (Or.inl ⟨by rfl, ?_⟩) (by assumption) ?_
                  rotate_left
                  · intro w hSw
                    try dsimp only at hSw
                    go_simp
                    try with_reducible rfl
                  try simp only [Act.put, List.setIfInBounds_toArray, List.set_cons_zero, List.set_cons_succ]
                  refine wpAnyH_take (i := 21) (oi := { dst := some 111, op := _, type := _, pos := _, after := _, guard := _ }) (v := ?_) rfl (by kernel_rfl) (by kernel_rfl) (by kernel_rfl) (fun _ _ _ h => h) (Or.inl ⟨by rfl, ?_⟩) (by assumption) ?_
                  rotate_left
                  · intro w hSw
                    try dsimp only at hSw
                    go_simp
                    try with_reducible rfl
                  try simp only [Act.put, List.setIfInBounds_toArray, List.set_cons_zero, List.set_cons_succ]
                  refine wpAnyH_ready (rs := [17]) (by kernel_rfl) (by simp) ?_
                  refine AllReadyH.cons rfl (fun K hK => ?_) AllReadyH.nil
                  go_simp
                  refine (pseen W b g most A1 u xm v _ HP.out.p hu HV2.out).mono ?_
                  rintro e v1 ⟨rfl, _, hb⟩
                  have HP := Lib.hid (HP.out.step hb)
                  have HBl := Lib.hid (HBl.out.trans (hb.mono HBl.out.size))
                  clear hb
                  go_wp2_with fail
                  refine hK.out _ _ ?_ (fun hHeld => ?_)
                  · exact HSt.out _ HP.out.p.low HP.out.kx HBl.out
                  clear hK K
                  try simp only [Act.put, List.setIfInBounds_toArray, List.set_cons_zero, List.set_cons_succ]
                  refine wpAnyH_take (i := 22) (oi := { dst := some 112, op := _, type := _, pos := _, after := _, guard := _ }) (v := ?_) rfl (by kernel_rfl) (by kernel_rfl) (by kernel_rfl) (fun _ _ _ h => h) (Or.inl ⟨by rfl, ?_⟩) (by assumption) ?_
                  rotate_left
                  · intro w hSw
                    try dsimp only at hSw
                    go_simp
                    try with_reducible rfl
                  try simp only [Act.put, List.setIfInBounds_toArray, List.set_cons_zero, List.set_cons_succ]
                  refine wpAnyH_take (i := 23) (oi := { dst := some 113, op := _, type := _, pos := _, after := _, guard := _ }) (v := ?_) rfl (by kernel_rfl) (by kernel_rfl) (by kernel_rfl) (fun _ _ _ h => h) (Or.inl ⟨by rfl, ?_⟩) (by assumption) ?_
                  rotate_left
                  · intro w hSw
                    try dsimp only at hSw
                    go_simp
                    try with_reducible rfl
                  try simp only [Act.put, List.setIfInBounds_toArray, List.set_cons_zero, List.set_cons_succ]
                  refine wpAnyH_done (by kernel_rfl) ?_ _
                  go_wp2_with fail
                  go_roundw
                  case rel => exact ⟨i + 1, by omega, by go_num, HP⟩
                  case measure => simp [intOf]; omega
              · obtain rfl : i = ll.length := by omega
                obtain ⟨nl, hnl⟩ : ∃ nl, A1.length = nl := ⟨_, rfl⟩
                have HNL := Lib.hid hnl
                have hok := HP.out.p.ox.ok.len
                rw [hnl] at hok
                clear hnl
                obtain ⟨b0, b1, b2, b3⟩ := HXc.out _ HP.out.kx
                cases hw : wordB xu with
                | true =>
                  have HWd := Lib.hid hw
                  clear hw
                  go_wp2_with fail
                  refine (plen W b g most A1 nl _ HP.out.p HNL.out).mono ?_
                  rintro e w' ⟨rfl, rfl⟩
                  go_wp2_with fail
                  refine (word_k xu true _ hxu HWd.out).mono ?_
                  rintro e w' ⟨rfl, rfl⟩
                  go_wp2_with fail
                  refine (alive_s _).mono ?_
                  rintro e w9 ⟨rfl, hb⟩
                  have HB := Lib.hid (HP.out.p.low.trans (hb.mono HP.out.p.low.size))
                  clear hb
                  go_wp2_with fail
                  go_ret
                  exact ⟨rfl, HB.out⟩
                | false =>
                  have HWd := Lib.hid hw
                  have HU5 := Lib.hid (use_noword (most := most) (A := A1) hw (limI xx) (limI xm))
                  clear hw
                  go_wp2_with fail
                  refine (plen W b g most A1 nl _ HP.out.p HNL.out).mono ?_
                  rintro e w' ⟨rfl, rfl⟩
                  go_wp2_with fail
                  refine (word_k xu false _ hxu HWd.out).mono ?_
                  rintro e w' ⟨rfl, rfl⟩
                  go_wp2_with fail
                  refine (puse W b g most A1 A1 xu xx xm 5 _ HP.out.p hxu HU5.out).mono ?_
                  rintro e w7 ⟨rfl, hp, hg⟩
                  have HP := Lib.hid (HP.out.use hp hg)
                  clear hp hg b0 b1 b2 b3
                  go_wp2_with fail
                  refine (alive_s _).mono ?_
                  rintro e w9 ⟨rfl, hb⟩
                  have HB := Lib.hid (HP.out.p.low.trans (hb.mono HP.out.p.low.size))
                  clear hb
                  go_wp2_with fail
                  go_ret
                  exact ⟨rfl, HB.out⟩
      · go_enter Try.func6, Try.ntmps6
        go_wp2_with fail
        refine (HFw.out _ HBx.out).mono ?_
        rintro e w1 ⟨rfl, rfl⟩
        go_wp2_with fail
        refine (new_bad most _ hk).mono ?_
        rintro e w1 ⟨rfl, rfl⟩
        go_wp2_with fail
        refine (alive_s _).mono ?_
        rintro e w9 ⟨rfl, hb⟩
        have HB := Lib.hid (HBx.out.trans (hb.mono HBx.out.size))
        clear hb
        go_wp2_with fail
        go_ret
        exact ⟨rfl, HB.out⟩

theorem loapart_types : ∀ t ∈ [3, 22, 33], Try.prog.readableRec t = true ∧ t < Try.prog.types.size := by
  have h : ([3, 22, 33].all fun t => Try.prog.readableRec t && decide (t < Try.prog.types.size)) = true := by kernel_rfl
  intro t ht
  have := List.all_eq_true.1 h t ht
  simpa using this

set_option maxRecDepth 100000 in
theorem loapart_contract (H : Type) (enc : TypeId × Value → H) (W : World) (base : Nat) (args : Array Value) (ds gs : List (DataW H)) (before : List MemPlace)
    (hval : ∀ (j : Nat) t v, Try.f6.params[j]? = some t → args[j]? = some v → Value.okWide Try.prog W .any base t v)
    (hW : DataW.Whole enc Try.prog Try.f6.params.toList Rows.onceApartSpec.vars false W args.toList ds gs before) (hsh : W.ShapedOpen Try.prog) :
    Calls Try.prog 6 args W fun e W' => ∃ v, e = .returned v ∧ Rows.onceApartSpec.post enc Try.prog Try.f6 false true false false W args v W' := by
  have hW' := hW
  obtain ⟨p, q, hA0, hV, rfl, hfz, hnd⟩ := hW
  have hA : DataW.TrodAll enc Try.prog W 0 (fun _ => true) true Try.f6.params.toList args.toList ds p := hA0
  obtain ⟨rfl, rfl⟩ := trodVars_none hV
  simp only [List.append_nil] at hW'
  have hlt : ∀ x ∈ p, x.block < W.heap.size := fun x hx => by simpa using hW'.lt x hx
  have fin : ∀ W', Below W.heap.size W W' → DataW.TrodAll enc Try.prog W' 0 (fun b => decide (b < W.heap.size)) true [3, 22, 33] args.toList ds p := fun W' hb => by
    rw [Try.params6] at hA
    exact trodAll_below hb _ _ _ _ loapart_types hA hlt
  clear hA0
  rw [Try.params6] at hA hval
  obtain ⟨v0, vs0, d0, ds0, p0, q0, hargs, rfl, hp0, h0, r0⟩ := trodAll_cons hA
  obtain ⟨v1, vs1, d1, ds1, p1, q1, rfl, rfl, hp1, h1, r1⟩ := trodAll_cons r0
  obtain ⟨v2, vs2, d2, ds2, p2, q2, rfl, rfl, hp2, h2, r2⟩ := trodAll_cons r1
  obtain ⟨rfl, rfl, rfl⟩ := trodAll_nil r2
  obtain rfl : args = #[v0, v1, v2] := by cases args; simp_all
  obtain ⟨most, rfl, rfl, rfl, hs0⟩ := open_int Try.underlying3 (hval 0 3 v0 rfl rfl) h0
  obtain ⟨l, ln, lc, ll, rfl, hs1, _⟩ := open_ocs (hval 1 22 v1 rfl rfl) h1
  obtain ⟨x, rfl, hs2⟩ := open_oc (hval 2 33 v2 rfl rfl) h2
  refine (loapart_s most l ln lc ll x W (int_range hs0) hs1 hs2).mono fun e W' ⟨he, hb⟩ => ?_
  subst he
  exact ⟨_, rfl, _, _, _, [], p, [], hW', trodAll_mk1 (shut_bool Try.underlying4 _), fin W' hb, rfl, hb.frame _, fun h => by cases h⟩

set_option maxRecDepth 100000 in
theorem loapart_lifted (os : Os) (started : os.Started) (H : Type) (enc : TypeId × Value → H) :
    ReturnsInHanded {} Try.checked os 6 .any (Rows.onceApartSpec.pre6 enc Try.prog Try.f6 Rows.onceApartRow.domain false) (Rows.onceApartSpec.post enc Try.prog Try.f6 false true false false) := by
  refine returnsInHanded_of_change_shaped (C := Try.checked) own started (by kernel_rfl) Try.func6
    (ChangeSpec.witness6 (enc := enc) (C := Try.checked) false ⟨#[], #[.int .i64 0, .slice none 0 0, .agg #[.int .i64 0, .string ⟨#[]⟩, .int .i64 0, .int .i64 0]], []⟩ 8 (by kernel_rfl) (by kernel_rfl) (by kernel_rfl) (by kernel_rfl)) ?_
  intro W base args ds gs before hval hW _ _ hsh _
  exact loapart_contract H enc W base args ds gs before hval hW hsh

set_option maxRecDepth 100000 in
/-- THE STATEMENT -/
theorem loapart_said : Rows.OnceApartSaid :=
  OpenClaim.holds_of_wide 6 Try.f6 rfl rfl rfl rfl rfl rfl rfl ⟨rfl, rfl, rfl, rfl, rfl⟩ rfl rfl rfl rfl rfl (by kernel_rfl) Try.func6 (by kernel_rfl)
    (of_decide_eq_true (by kernel_rfl)) (by unfold Func.isWrapper; first | (rw [if_pos (by decide +kernel)]; kernel_rfl) | (rw [if_neg (by decide +kernel)]; exact ⟨rfl, rfl⟩))
    (fun os started H enc _ => loapart_lifted os started H enc)
end Go.Proofs.Yteoaekjhicphlaa
