/-
  Contracts of slices.Grow at the nil slice of numbers, csn.latest and least. Condition: at most 1000000 numbers.
-/
import Derived.Test.YtcnhkoijphfibaaDoorCsnC3
import Derived.Lib.AppendZeros
set_option maxRecDepth 100000
set_option linter.unusedVariables false
set_option linter.unusedSimpArgs false
set_option linter.unnecessarySimpa false
namespace Go.Proofs.YtcnhkoijphfibaaDoor
open Go.RowKit Go.PlainAid

theorem zeroC_size (k : Nat) : (Builtin.zeroCells (Value.agg #[.int .i64 0, .int .i64 0, .int .i64 0]).cells k).size = k * 3 := by
  simp [Builtin.zeroCells, Value.cells]
theorem growN_run (w : World) (n : Nat) (h0 : 0 < n) (hn : n ≤ 1000000) : ∃ G W1, (∀ ty, (Builtin.append_ #[39, 3] ty #[.slice none 0 0, .int .i64 (n : Int)]).run Tryd.prog w = .ok (.slice (some ⟨w.heap.size, 0, none⟩) n G) W1) ∧
    n ≤ G ∧ G ≤ maxLen ∧ W1.ownsRow w.heap.size 23 3 (.slice (some ⟨w.heap.size, 0, none⟩) 0 G) 0 [] ∧ Below w.heap.size w W1 := by
  obtain ⟨i0, hi0, hz0, hz1, hz2⟩ := info_cparts info_cn
  have hrun := fun ty => Lib.run_append_nil_zeros w 39 3 ty 23 i0 _ .i64 .i64 Tryd.underlying39 Tryd.underlying3 hi0 hz0 n h0 (by rw [hz1]; decide) (by omega) (by rw [hz2]; omega)
  refine ⟨grownCap w n 0 23, _, hrun, grownCap_ge w _ _ _, grownCap_le_maxLen w _ _ _ (by unfold maxLen; omega), ?_, ((Below.refl _ w).drew).alloc (Nat.le_refl _) _⟩
  have hg := grownCap_ge w n 0 23
  exact World.ownsRow_made w.drew _ _ (Nat.le_refl _) (grownCap_le_maxLen w _ _ _ (by unfold maxLen; omega)) (by rw [Array.size_append, zeroC_size, zeroC_size]; omega)
set_option maxHeartbeats 4000000 in
theorem grow_s (n : Nat) (w : World) (hn : n ≤ 1000000) :
    Calls Tryd.prog 60 #[.slice none 0 0, .int .i64 n] w fun e w' => ∃ v, e = .returned v ∧ w'.ownsRow w.heap.size 23 3 v 0 [] ∧ Below w.heap.size w w' := by
  rcases Nat.eq_zero_or_pos n with h0 | h0
  · subst h0
    go_enter Tryd.func60, Tryd.ntmps60
    go_wp2
    go_ret
    exact ⟨_, rfl, World.ownsRow_nil _ _ _ _, Below.refl _ _⟩
  · obtain ⟨G, W1, hrun, hG1, hG2, hown, hb⟩ := growN_run w n h0 hn
    unfold maxLen at hG2
    have d0 : (0 : Int) < (n : Int) := by omega
    have d1 : ¬ (n : Int) < 0 := by omega
    have HR := Lib.hid hrun
    clear hrun
    go_enter Tryd.func60, Tryd.ntmps60
    go_wp2_with (at_builtin; refine Lib.wpList_append_run _ rfl _ _ _ _ rfl _ _ rfl rfl _ _ (HR.out _) ?_)
    go_ret
    exact ⟨_, rfl, hown, hb⟩

theorem own_belowC {w w' : World} {B n size : Nat} {e : TypeId} {v : Value} {xs : List Value} (h : w.ownsRow B e size v n xs) (hb : Below w.heap.size w w') : w'.ownsRow B e size v n xs := by
  refine ⟨h.1, ?_⟩
  rcases h.2 with h2 | ⟨g, cap, cur, h2, h3, h4, h5⟩
  · exact .inl h2
  · refine .inr ⟨g, cap, cur, h2, h3, ?_, h5⟩
    rw [hb.block g (Array.getElem?_eq_some_iff.1 h4).1]
    exact h4
/-! ### latest, least -/
def bstV (r : Int) (l : List Cn) : Cn := (bstC r l).getD (0, 0, 0)
theorem bst_nil (r : Int) : bstC r [] = none := rfl
theorem bst_next {l : List Cn} {i : Nat} (hi : i < l.length) (r : Int) : bstC r (l.take (i + 1)) = laterC r (bstC r (l.take i)) (cnA l i) := by rw [take_cn l i hi, bst_snoc]
set_option maxHeartbeats 8000000 in
theorem latest_s (rp : Int) (ao : Option Addr) (n cap : Nat) (l : List Cn) (w : World) (h : CnsAt w ao n cap l) :
    Calls Tryd.prog 59 #[.int .i64 rp, .slice ao n cap] w fun e w' => e = .returned (.tuple #[cnV (bstV rp l), .bool (bstC rp l).isSome]) ∧ Below w.heap.size w w' := by
  obtain ⟨h1, h2, h3, h4, h5⟩ := h
  subst h1
  unfold maxLen at h3
  have H4 := Lib.hid h4; clear h4 h5
  have HCm := Lib.hid (fun (a0 a1 a2 b0 b1 b2 x : Int) W (hx : cmpC (a0, a1, a2) (b0, b1, b2) = x) => show Calls Tryd.prog 11 #[.agg #[.int .i64 a0, .int .i64 a1, .int .i64 a2], .agg #[.int .i64 b0, .int .i64 b1, .int .i64 b2]] W (fun q w' => q = .returned (.int .i64 x) ∧ Below W.heap.size W w') from hx ▸ cmp_s (a0, a1, a2) (b0, b1, b2) W)
  have HK0 := Lib.hid (kbc_new w (cnB (0, 0, 0)))
  have HB0 := Lib.hid (box_below w (cnB (0, 0, 0)))
  unfold cnB at HB0
  dsimp only at HB0
  go_enter Tryd.func59, Tryd.ntmps59
  go_wp2_with fail
  go_loopw [5, 10] (fun fv iv wr => ∃ (i : Nat) (o : Option Cn), i ≤ l.length ∧ iv = .int .i64 i ∧ fv = .bool o.isSome ∧ Hid (o = bstC rp (l.take i)) ∧ Hid (KbC wr w.heap.size (cnB (o.getD (0, 0, 0)))) ∧ Hid (Below w.heap.size w wr)) (fun _ iv _ => l.length - (intOf iv).toNat)
  case atStart => exact ⟨0, none, Nat.zero_le _, rfl, rfl, Lib.hid rfl, HK0, HB0⟩
  case round =>
    obtain ⟨i, o, hi, rfl, rfl, HO, HK, HB⟩ := hrel
    by_cases hlt : i < l.length
    · have d1 : (i : Int) < (l.length : Int) := by omega
      obtain ⟨b, off, rfl, hs⟩ := H4.out (by omega)
      obtain ⟨c0, c1, c2⟩ := (hs.below HB.out hs.1).2 i hlt
      clear hs
      have HN := Lib.hid (show bstC rp (l.take (i + 1)) = laterC rp o (cnA l i) by rw [bst_next hlt, ← HO.out])
      obtain ⟨⟨t, s, r⟩, hc⟩ : ∃ c, cnA l i = c := ⟨_, rfl⟩
      rw [hc] at c0 c1 c2 HN
      dsimp only at c0 c1 c2
      clear hc
      have hgl := HK.out.big
      obtain ⟨⟨lt, ls, lr⟩, hl⟩ : ∃ c, o.getD (0, 0, 0) = c := ⟨_, rfl⟩
      rw [hl] at HK
      have HKX := Lib.hid (HK.out.step (box_below wr (cnB (t, s, r))))
      have HX := Lib.hid (kbc_new wr (cnB (t, s, r)))
      have HBX := Lib.hid (HB.out.alloc HB.out.size (cnB (t, s, r)))
      obtain ⟨g0, g1, g2⟩ := HKX.out.box
      obtain ⟨q0, q1, q2⟩ := HK.out.box
      have gf : ∀ i, wr.frozen? ⟨w.heap.size, i, none⟩ = false := fun i => HK.out.frz
      have gf0 := gf 0
      have gf1 := gf 1
      have gf2 := gf 2
      have hne : w.heap.size ≠ wr.heap.size := by omega
      have hne2 : wr.heap.size ≠ w.heap.size := by omega
      unfold cnB at g0 g1 g2 HBX
      dsimp only at g0 g1 g2 q0 q1 q2 HBX
      have HKS := Lib.hid (fun (W : World) (hK : KbC W w.heap.size (cnB (lt, ls, lr))) => (KbC.set3 (u := .int .i64 t) (v := .int .i64 s) (q := .int .i64 r) hK : KbC _ w.heap.size (cnB (t, s, r))))
      have HBS := Lib.hid (fun (W : World) (hB : Below w.heap.size w W) => ((hB.setCell (p := ⟨w.heap.size, 0, none⟩) (Nat.le_refl _) (.int .i64 t)).setCell (p := ⟨w.heap.size, 1, none⟩) (Nat.le_refl _) (.int .i64 s)).setCell (p := ⟨w.heap.size, 2, none⟩) (Nat.le_refl _) (.int .i64 r))
      by_cases hr : r = rp
      · subst hr
        cases o with
        | none =>
          have HL := Lib.hid (show laterC r none (t, s, r) = some (t, s, r) by unfold laterC; rw [if_pos rfl])
          clear hl
          go_wp2_with fail
          go_roundw
          case rel => exact ⟨i + 1, some (t, s, r), by omega, by go_num, rfl, Lib.hid (by rw [HN.out, HL.out]), Lib.hid ((HKS.out _ HK.out).step (box_below _ (cnB (t, s, r)))), Lib.hid ((HBS.out _ HB.out).alloc (by have := HB.out.size; simpa using this) (cnB (t, s, r)))⟩
          case measure => simp [intOf]; omega
        | some d =>
          have hl : d = (lt, ls, lr) := hl
          subst hl
          have HL := Lib.hid (show laterC r (some (lt, ls, lr)) (t, s, r) = if ltC (lt, ls, lr) (t, s, r) then some (t, s, r) else some (lt, ls, lr) by unfold laterC; rw [if_pos rfl])
          obtain ⟨x, hx⟩ : ∃ x, cmpC (t, s, r) (lt, ls, lr) = x := ⟨_, rfl⟩
          have HCx := Lib.hid (HCm.out t s r lt ls lr x (wr.alloc (cnB (t, s, r))) hx)
          unfold cnB at HCx
          dsimp only at HCx
          by_cases hg : ltC (lt, ls, lr) (t, s, r)
          · have hx0 : 0 < x := by rw [← hx]; exact cmpC_gt.2 hg
            have d0 : decide (0 < x) = true := decide_eq_true hx0
            have HM := Lib.hid (HL.out.trans (if_pos hg))
            clear hx hg
            go_wp2_with fail
            refine HCx.out.mono ?_
            rintro e w2 ⟨rfl, hb⟩
            have HK2 := Lib.hid (HKX.out.step hb)
            have HX2 := Lib.hid (HX.out.step hb)
            have HB2 := Lib.hid (HBX.out.trans (hb.mono HBX.out.size))
            have x0 : w2.cell? ⟨wr.heap.size, 0, none⟩ = some (.int .i64 t) := HX2.out.cell rfl
            have x1 : w2.cell? ⟨wr.heap.size, 1, none⟩ = some (.int .i64 s) := HX2.out.cell rfl
            have x2 : w2.cell? ⟨wr.heap.size, 2, none⟩ = some (.int .i64 r) := HX2.out.cell rfl
            have y0 : w2.cell? ⟨w.heap.size, 0, none⟩ = some (.int .i64 lt) := HK2.out.cell rfl
            have y1 : w2.cell? ⟨w.heap.size, 1, none⟩ = some (.int .i64 ls) := HK2.out.cell rfl
            have y2 : w2.cell? ⟨w.heap.size, 2, none⟩ = some (.int .i64 lr) := HK2.out.cell rfl
            have gk : ∀ i, w2.frozen? ⟨w.heap.size, i, none⟩ = false := fun i => HK2.out.frz
            have gk0 := gk 0
            have gk1 := gk 1
            have gk2 := gk 2
            clear hb
            go_wp2_with fail
            go_roundw
            case rel => exact ⟨i + 1, some (t, s, r), by omega, by go_num, rfl, Lib.hid (by rw [HN.out, HM.out]), Lib.hid (HKS.out _ HK2.out), Lib.hid (HBS.out _ HB2.out)⟩
            case measure => simp [intOf]; omega
          · have hx0 : ¬ 0 < x := by rw [← hx]; exact fun q => hg (cmpC_gt.1 q)
            have d0 : decide (0 < x) = false := decide_eq_false hx0
            have HM := Lib.hid (HL.out.trans (if_neg hg))
            clear hx hg
            go_wp2_with fail
            refine HCx.out.mono ?_
            rintro e w2 ⟨rfl, hb⟩
            have HK2 := Lib.hid (HKX.out.step hb)
            have HB2 := Lib.hid (HBX.out.trans (hb.mono HBX.out.size))
            clear hb
            go_wp2_with fail
            go_roundw
            case rel => exact ⟨i + 1, some (lt, ls, lr), by omega, by go_num, rfl, Lib.hid (by rw [HN.out, HM.out]), HK2, HB2⟩
            case measure => simp [intOf]; omega
      · have hrb : (r == rp) = false := by simpa using hr
        have HL := Lib.hid (show laterC rp o (t, s, r) = o by unfold laterC; rw [if_neg hr])
        have HKK := Lib.hid (show KbC (wr.alloc (cnB (t, s, r))) w.heap.size (cnB (o.getD (0, 0, 0))) by rw [hl]; exact HKX.out)
        clear hr hl
        go_wp2_with fail
        go_roundw
        case rel => exact ⟨i + 1, o, by omega, by go_num, rfl, Lib.hid (by rw [HN.out, HL.out]), HKK, HBX⟩
        case measure => simp [intOf]; omega
    · have HF := Lib.hid (show o = bstC rp l by rw [HO.out, List.take_of_length_le (by omega)])
      have d1 : ¬ (i : Int) < (l.length : Int) := by omega
      obtain ⟨⟨lt, ls, lr⟩, hl⟩ : ∃ c, o.getD (0, 0, 0) = c := ⟨_, rfl⟩
      rw [hl] at HK
      obtain ⟨q0, q1, q2⟩ := HK.out.box
      dsimp only at q0 q1 q2
      have gf : ∀ i, wr.frozen? ⟨w.heap.size, i, none⟩ = false := fun i => HK.out.frz
      have gf0 := gf 0
      have gf1 := gf 1
      have gf2 := gf 2
      have HV := Lib.hid (show bstV rp l = (lt, ls, lr) by unfold bstV; rw [← HF.out]; exact hl)
      have HBS := Lib.hid (((HB.out.setCell (p := ⟨w.heap.size, 0, none⟩) (Nat.le_refl _) (.int .i64 lt)).setCell (p := ⟨w.heap.size, 1, none⟩) (Nat.le_refl _) (.int .i64 ls)).setCell (p := ⟨w.heap.size, 2, none⟩) (Nat.le_refl _) (.int .i64 lr))
      have K1 : KbC (wr.setCell ⟨w.heap.size, 0, none⟩ (.int .i64 lt)) w.heap.size (.cells #[.int .i64 lt, .int .i64 ls, .int .i64 lr] 23) := HK.out.set (i := 0) (.int .i64 lt)
      have K2 : KbC ((wr.setCell ⟨w.heap.size, 0, none⟩ (.int .i64 lt)).setCell ⟨w.heap.size, 1, none⟩ (.int .i64 ls)) w.heap.size (.cells #[.int .i64 lt, .int .i64 ls, .int .i64 lr] 23) := K1.set (i := 1) (.int .i64 ls)
      have K3 : KbC (((wr.setCell ⟨w.heap.size, 0, none⟩ (.int .i64 lt)).setCell ⟨w.heap.size, 1, none⟩ (.int .i64 ls)).setCell ⟨w.heap.size, 2, none⟩ (.int .i64 lr)) w.heap.size (.cells #[.int .i64 lt, .int .i64 ls, .int .i64 lr] 23) := K2.set (i := 2) (.int .i64 lr)
      have k0 : (wr.setCell ⟨w.heap.size, 0, none⟩ (.int .i64 lt)).cell? ⟨w.heap.size, 0, none⟩ = some (.int .i64 lt) := K1.cell rfl
      have k1 : ((wr.setCell ⟨w.heap.size, 0, none⟩ (.int .i64 lt)).setCell ⟨w.heap.size, 1, none⟩ (.int .i64 ls)).cell? ⟨w.heap.size, 1, none⟩ = some (.int .i64 ls) := K2.cell rfl
      have k2 : (((wr.setCell ⟨w.heap.size, 0, none⟩ (.int .i64 lt)).setCell ⟨w.heap.size, 1, none⟩ (.int .i64 ls)).setCell ⟨w.heap.size, 2, none⟩ (.int .i64 lr)).cell? ⟨w.heap.size, 2, none⟩ = some (.int .i64 lr) := K3.cell rfl
      clear hl K1 K2 K3
      go_wp2_with fail
      refine bodyPost_ret (v := .tuple #[.agg #[.int .i64 lt, .int .i64 ls, .int .i64 lr], .bool o.isSome]) (by simp [results, Tryd.results59, go_sem, k0, k1, k2]) rfl ⟨by rw [HV.out, ← HF.out]; rfl, ?_⟩
      exact HBS.out
set_option maxHeartbeats 8000000 in
theorem least_s (ao : Option Addr) (n cap : Nat) (l : List Cn) (w : World) (h : CnsAt w ao n cap l) :
    Calls Tryd.prog 50 #[.slice ao n cap] w fun e w' => ∃ bo m dap, e = .returned (.slice bo m dap) ∧ CnsAt w' bo m dap (lstC l) ∧ Below w.heap.size w w' := by
  have H := Lib.hid h
  clear h
  have HLt := Lib.hid (fun (rp : Int) (c : Cn) (o : Option Cn) W (hW : CnsAt W ao n cap l) (ho : bstC rp l = o) (hc : o.getD (0, 0, 0) = c) => show Calls Tryd.prog 59 #[.int .i64 rp, .slice ao n cap] W (fun q w' => q = .returned (.tuple #[.agg #[.int .i64 c.1, .int .i64 c.2.1, .int .i64 c.2.2], .bool o.isSome]) ∧ Below W.heap.size W w') from by
    subst ho; subst hc; exact latest_s rp ao n cap l W hW)
  have HP := Lib.hid (show ∀ k, (List.range (k + 1)).filterMap (fun (j : Nat) => bstC (j : Int) l) = (List.range k).filterMap (fun (j : Nat) => bstC (j : Int) l) ++ (bstC (k : Int) l).toList from fun k => by
    rw [List.range_succ, List.filterMap_append]
    congr 1)
  go_enter Tryd.func50, Tryd.ntmps50
  go_wp2_with fail
  go_loopw [3, 7] (fun sv iv wr => ∃ (i m : Nat) (P : List Cn), i ≤ 8 ∧ iv = .int .i64 i ∧ m ≤ i ∧ Hid (P = (List.range i).filterMap (fun (j : Nat) => bstC (j : Int) l)) ∧ wr.ownsRow w.heap.size 23 3 sv m (ccells P) ∧ Hid (Below w.heap.size w wr)) (fun _ iv _ => 8 - (intOf iv).toNat)
  case atStart => exact ⟨0, 0, [], Nat.zero_le _, rfl, Nat.le_refl _, Lib.hid rfl, World.ownsRow_nil _ _ _ _, Lib.hid (Below.refl _ _)⟩
  case round =>
    obtain ⟨i, m, P, hi, rfl, hm, HPi, hown, HB⟩ := hrel
    by_cases hlt : i < 8
    · have d1 : (i : Int) < 8 := by omega
      obtain ⟨o, ho⟩ : ∃ o, bstC (i : Int) l = o := ⟨_, rfl⟩
      have HN := Lib.hid (show (List.range (i + 1)).filterMap (fun (j : Nat) => bstC (j : Int) l) = P ++ o.toList by rw [HP.out, ← HPi.out, ho])
      obtain ⟨⟨t, s, r⟩, hc⟩ : ∃ c, o.getD (0, 0, 0) = c := ⟨_, rfl⟩
      have HCl := Lib.hid (HLt.out (i : Int) (t, s, r) o wr (H.out.below HB.out) ho hc)
      dsimp only at HCl
      clear ho
      go_wp2_with fail
      refine HCl.out.mono ?_
      rintro e w1 ⟨rfl, hb⟩
      have HO1 := Lib.hid (own_belowC hown hb)
      have HB1 := Lib.hid (HB.out.trans (hb.mono HB.out.size))
      have HB2 := Lib.hid (HB1.out.alloc HB1.out.size (cnB (t, s, r)))
      have HO2 := Lib.hid (HO1.out.alloc (cnB (t, s, r)))
      unfold cnB at HB2 HO2
      dsimp only at HB2 HO2
      clear hb hown
      cases o with
      | none =>
        go_wp2_with fail
        go_roundw
        case rel => exact ⟨i + 1, m, P, by omega, by go_num, by omega, Lib.hid (by rw [HN.out]; simp), HO2.out, HB2⟩
        case measure => simp [intOf]; omega
      | some d =>
        have hc : d = (t, s, r) := hc
        subst hc
        have HSz := Lib.hid HB2.out.size
        go_wp2_with (at_builtin; refine app_cns ((w1.alloc _).alloc _) (HO2.out.alloc _) (.tmp 17) (.tmp 19) (some ⟨w1.heap.size + 1, 0, none⟩) 1 1 [(t, s, r)] ?_ ?_ ?_ ?_ ?_ ?_ ?_ ?_; exact rfl; exact rfl; exact rfl; exact rfl; (have := cns_new (w1.alloc (cnB (t, s, r))) (t, s, r); rw [World.size_alloc] at this; exact this); omega; (show w.heap.size ≤ ((w1.heap.push _).push _).size; have := HB1.out.size; simp; omega); intro v3 W3 hown3 hb3; have hB3 := (HB2.out.alloc HSz.out _).trans hb3)
        rw [← ccells_app] at hown3
        go_roundw
        case rel => exact ⟨i + 1, m + 1, P ++ [(t, s, r)], by omega, by go_num, by omega, Lib.hid (by rw [HN.out]; rfl), hown3, Lib.hid hB3⟩
        case measure => simp [intOf]; omega
    · obtain rfl : i = 8 := by omega
      have HF := Lib.hid (show P = lstC l from HPi.out)
      obtain ⟨bo, dap, rfl, hat⟩ := cns_of_owns hown
      have HA := Lib.hid hat
      clear hat hown
      go_wp2_with fail
      go_ret
      exact ⟨bo, m, dap, rfl, by rw [← HF.out]; exact HA.out, HB.out⟩

end Go.Proofs.YtcnhkoijphfibaaDoor
