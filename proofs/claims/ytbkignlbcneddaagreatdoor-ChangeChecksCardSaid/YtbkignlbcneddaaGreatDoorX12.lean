/-
  Texts of the schema layer and of those beneath it, joined: CsnC4, CsnC5, CsnC6, CsnS1, CsnLv, CsnLaws, CsnR1, CsnR2. Conditions stand at each contract.
-/
import Derived.Lib.AppendZeros
import Derived.WalkKit
import Derived.ProofKit
import Derived.OpenShut
import Derived.Deep.DeepHandedRow
import Derived.Lay
import Derived.Shelf.Vars
import Derived.Lib.SmallJoins
import Derived.Deep.Slices
import Derived.Deep.Strs
import Derived.Lib.LaidTab
import Derived.Stop.LaidErr
import Derived.Test.YtbkignlbcneddaaGreatDoorCards
import Derived.Test.YtbkignlbcneddaaGreatDoorTie
import Derived.Test.YtbkignlbcneddaaGreatDoorX10
import Derived.Test.YtbkignlbcneddaaGreatDoorX11
set_option linter.unusedVariables false
set_option linter.unusedSimpArgs false
set_option linter.unnecessarySimpa false

section
/-
  Contracts of slices.Grow at the nil slice of numbers, csn.latest and least. Condition: at most 1000000 numbers.
-/
set_option maxRecDepth 100000
set_option maxRecDepth 100000
namespace Go.Proofs.YtbkignlbcneddaaGreatDoor
namespace Csn
open Go.RowKit Go.PlainAid
theorem zeroC_size (k : Nat) : (Builtin.zeroCells (Value.agg #[.int .i64 0, .int .i64 0, .int .i64 0]).cells k).size = k * 3 := by
  simp [Builtin.zeroCells, Value.cells]
theorem growN_run (w : World) (n : Nat) (h0 : 0 < n) (hn : n ≤ 1000000) : ∃ G W1, (∀ ty, (Builtin.append_ #[43, 3] ty #[.slice none 0 0, .int .i64 (n : Int)]).run Tryz.prog w = .ok (.slice (some ⟨w.heap.size, 0, none⟩) n G) W1) ∧
    n ≤ G ∧ G ≤ maxLen ∧ W1.ownsRow w.heap.size 23 3 (.slice (some ⟨w.heap.size, 0, none⟩) 0 G) 0 [] ∧ Below w.heap.size w W1 := by
  obtain ⟨i0, hi0, hz0, hz1, hz2⟩ := info_cparts info_cn
  have hrun := fun ty => Lib.run_append_nil_zeros w 43 3 ty 23 i0 _ .i64 .i64 Tryz.underlying43 Tryz.underlying3 hi0 hz0 n h0 (by rw [hz1]; decide) (by omega) (by rw [hz2]; omega)
  refine ⟨grownCap w n 0 23, _, hrun, grownCap_ge w _ _ _, grownCap_le_maxLen w _ _ _ (by unfold maxLen; omega), ?_, ((Below.refl _ w).drew).alloc (Nat.le_refl _) _⟩
  have hg := grownCap_ge w n 0 23
  exact World.ownsRow_made w.drew _ _ (Nat.le_refl _) (grownCap_le_maxLen w _ _ _ (by unfold maxLen; omega)) (by rw [Array.size_append, zeroC_size, zeroC_size]; omega)
set_option maxHeartbeats 4000000 in
theorem grow_s (n : Nat) (w : World) (hn : n ≤ 1000000) :
    Calls Tryz.prog 200 #[.slice none 0 0, .int .i64 n] w fun e w' => ∃ v, e = .returned v ∧ w'.ownsRow w.heap.size 23 3 v 0 [] ∧ Below w.heap.size w w' := by
  rcases Nat.eq_zero_or_pos n with h0 | h0
  · subst h0
    go_enter Tryz.func200, Tryz.ntmps200
    go_wp2
    go_ret
    exact ⟨_, rfl, World.ownsRow_nil _ _ _ _, Below.refl _ _⟩
  · obtain ⟨G, W1, hrun, hG1, hG2, hown, hb⟩ := growN_run w n h0 hn
    unfold maxLen at hG2
    have d0 : (0 : Int) < (n : Int) := by omega
    have d1 : ¬ (n : Int) < 0 := by omega
    have HR := Lib.hid hrun
    clear hrun
    go_enter Tryz.func200, Tryz.ntmps200
    go_wp2_with (at_builtin; refine Lib.wpList_append_run _ rfl _ _ _ _ rfl _ _ rfl rfl _ _ (HR.out _) ?_)
    go_ret
    exact ⟨_, rfl, hown, hb⟩
theorem own_belowC {w w' : World} {B n size : Nat} {e : TypeId} {v : Value} {xs : List Value} (h : w.ownsRow B e size v n xs) (hb : Below w.heap.size w w') : w'.ownsRow B e size v n xs := by
  refine ⟨h.1, ?_⟩
  rcases h.2 with h2 | ⟨g, cap, cur, h2, h3, h4, h5⟩
  · exact .inl h2
  · refine .inr ⟨g, cap, cur, h2, h3, ?_, h5⟩
    rw [hb.block g (Array.getElem?_eq_some_iff.1 h4).1]
    exact h4
/-! ### latest, least -/
def bstV (r : Int) (l : List Cn) : Cn := (bstC r l).getD (0, 0, 0)
theorem bst_next {l : List Cn} {i : Nat} (hi : i < l.length) (r : Int) : bstC r (l.take (i + 1)) = laterC r (bstC r (l.take i)) (cnA l i) := by rw [take_cn l i hi, bst_snoc]
set_option maxHeartbeats 8000000 in
theorem latest_s (rp : Int) (ao : Option Addr) (n cap : Nat) (l : List Cn) (w : World) (h : CnsAt w ao n cap l) :
    Calls Tryz.prog 199 #[.int .i64 rp, .slice ao n cap] w fun e w' => e = .returned (.tuple #[cnV (bstV rp l), .bool (bstC rp l).isSome]) ∧ Below w.heap.size w w' := by
  obtain ⟨h1, h2, h3, h4, h5⟩ := h
  subst h1
  unfold maxLen at h3
  have H4 := Lib.hid h4; clear h4 h5
  have HCm := Lib.hid (fun (a0 a1 a2 b0 b1 b2 x : Int) W (hx : cmpC (a0, a1, a2) (b0, b1, b2) = x) => show Calls Tryz.prog 69 #[.agg #[.int .i64 a0, .int .i64 a1, .int .i64 a2], .agg #[.int .i64 b0, .int .i64 b1, .int .i64 b2]] W (fun q w' => q = .returned (.int .i64 x) ∧ Below W.heap.size W w') from hx ▸ cmp_s (a0, a1, a2) (b0, b1, b2) W)
  have HK0 := Lib.hid (kbc_new w (cnB (0, 0, 0)))
  have HB0 := Lib.hid (box_below w (cnB (0, 0, 0)))
  unfold cnB at HB0
  dsimp only at HB0
  go_enter Tryz.func199, Tryz.ntmps199
  go_wp2_with fail
  go_loopw [5, 10] (fun fv iv wr => ∃ (i : Nat) (o : Option Cn), i ≤ l.length ∧ iv = .int .i64 i ∧ fv = .bool o.isSome ∧ Hid (o = bstC rp (l.take i)) ∧ Hid (KbC wr w.heap.size (cnB (o.getD (0, 0, 0)))) ∧ Hid (Below w.heap.size w wr)) (fun _ iv _ => l.length - (intOf iv).toNat)
  case atStart => exact ⟨0, none, Nat.zero_le _, rfl, rfl, Lib.hid rfl, HK0, HB0⟩
  case round =>
    obtain ⟨i, o, hi, rfl, rfl, HO, HK, HB⟩ := hrel
    by_cases hlt : i < l.length
    · have d1 : (i : Int) < (l.length : Int) := by omega
      obtain ⟨b, off, rfl, hs⟩ := H4.out (by omega)
      obtain ⟨c0, c1, c2⟩ := (hs.below HB.out hs.1).2 i hlt
      clear hs
      have HN := Lib.hid (show bstC rp (l.take (i + 1)) = laterC rp o (cnA l i) by rw [bst_next hlt, ← HO.out])
      obtain ⟨⟨t, s, r⟩, hc⟩ : ∃ c, cnA l i = c := ⟨_, rfl⟩
      rw [hc] at c0 c1 c2 HN
      dsimp only at c0 c1 c2
      clear hc
      have hgl := HK.out.big
      obtain ⟨⟨lt, ls, lr⟩, hl⟩ : ∃ c, o.getD (0, 0, 0) = c := ⟨_, rfl⟩
      rw [hl] at HK
      have HKX := Lib.hid (HK.out.step (box_below wr (cnB (t, s, r))))
      have HX := Lib.hid (kbc_new wr (cnB (t, s, r)))
      have HBX := Lib.hid (HB.out.alloc HB.out.size (cnB (t, s, r)))
      obtain ⟨g0, g1, g2⟩ := HKX.out.box
      obtain ⟨q0, q1, q2⟩ := HK.out.box
      have gf : ∀ i, wr.frozen? ⟨w.heap.size, i, none⟩ = false := fun i => HK.out.frz
      have gf0 := gf 0
      have gf1 := gf 1
      have gf2 := gf 2
      have hne : w.heap.size ≠ wr.heap.size := by omega
      have hne2 : wr.heap.size ≠ w.heap.size := by omega
      unfold cnB at g0 g1 g2 HBX
      dsimp only at g0 g1 g2 q0 q1 q2 HBX
      have HKS := Lib.hid (fun (W : World) (hK : KbC W w.heap.size (cnB (lt, ls, lr))) => (KbC.set3 (u := .int .i64 t) (v := .int .i64 s) (q := .int .i64 r) hK : KbC _ w.heap.size (cnB (t, s, r))))
      have HBS := Lib.hid (fun (W : World) (hB : Below w.heap.size w W) => ((hB.setCell (p := ⟨w.heap.size, 0, none⟩) (Nat.le_refl _) (.int .i64 t)).setCell (p := ⟨w.heap.size, 1, none⟩) (Nat.le_refl _) (.int .i64 s)).setCell (p := ⟨w.heap.size, 2, none⟩) (Nat.le_refl _) (.int .i64 r))
      by_cases hr : r = rp
      · subst hr
        cases o with
        | none =>
          have HL := Lib.hid (show laterC r none (t, s, r) = some (t, s, r) by unfold laterC; rw [if_pos rfl])
          clear hl
          go_wp2_with fail
          go_roundw
          case rel => exact ⟨i + 1, some (t, s, r), by omega, by go_num, rfl, Lib.hid (by rw [HN.out, HL.out]), Lib.hid ((HKS.out _ HK.out).step (box_below _ (cnB (t, s, r)))), Lib.hid ((HBS.out _ HB.out).alloc (by have := HB.out.size; simpa using this) (cnB (t, s, r)))⟩
          case measure => simp [intOf]; omega
        | some d =>
          have hl : d = (lt, ls, lr) := hl
          subst hl
          have HL := Lib.hid (show laterC r (some (lt, ls, lr)) (t, s, r) = if ltC (lt, ls, lr) (t, s, r) then some (t, s, r) else some (lt, ls, lr) by unfold laterC; rw [if_pos rfl])
          obtain ⟨x, hx⟩ : ∃ x, cmpC (t, s, r) (lt, ls, lr) = x := ⟨_, rfl⟩
          have HCx := Lib.hid (HCm.out t s r lt ls lr x (wr.alloc (cnB (t, s, r))) hx)
          unfold cnB at HCx
          dsimp only at HCx
          by_cases hg : ltC (lt, ls, lr) (t, s, r)
          · have hx0 : 0 < x := by rw [← hx]; exact cmpC_gt.2 hg
            have d0 : decide (0 < x) = true := decide_eq_true hx0
            have HM := Lib.hid (HL.out.trans (if_pos hg))
            clear hx hg
            go_wp2_with fail
            refine HCx.out.mono ?_
            rintro e w2 ⟨rfl, hb⟩
            have HK2 := Lib.hid (HKX.out.step hb)
            have HX2 := Lib.hid (HX.out.step hb)
            have HB2 := Lib.hid (HBX.out.trans (hb.mono HBX.out.size))
            have x0 : w2.cell? ⟨wr.heap.size, 0, none⟩ = some (.int .i64 t) := HX2.out.cell rfl
            have x1 : w2.cell? ⟨wr.heap.size, 1, none⟩ = some (.int .i64 s) := HX2.out.cell rfl
            have x2 : w2.cell? ⟨wr.heap.size, 2, none⟩ = some (.int .i64 r) := HX2.out.cell rfl
            have y0 : w2.cell? ⟨w.heap.size, 0, none⟩ = some (.int .i64 lt) := HK2.out.cell rfl
            have y1 : w2.cell? ⟨w.heap.size, 1, none⟩ = some (.int .i64 ls) := HK2.out.cell rfl
            have y2 : w2.cell? ⟨w.heap.size, 2, none⟩ = some (.int .i64 lr) := HK2.out.cell rfl
            have gk : ∀ i, w2.frozen? ⟨w.heap.size, i, none⟩ = false := fun i => HK2.out.frz
            have gk0 := gk 0
            have gk1 := gk 1
            have gk2 := gk 2
            clear hb
            go_wp2_with fail
            go_roundw
            case rel => exact ⟨i + 1, some (t, s, r), by omega, by go_num, rfl, Lib.hid (by rw [HN.out, HM.out]), Lib.hid (HKS.out _ HK2.out), Lib.hid (HBS.out _ HB2.out)⟩
            case measure => simp [intOf]; omega
          · have hx0 : ¬ 0 < x := by rw [← hx]; exact fun q => hg (cmpC_gt.1 q)
            have d0 : decide (0 < x) = false := decide_eq_false hx0
            have HM := Lib.hid (HL.out.trans (if_neg hg))
            clear hx hg
            go_wp2_with fail
            refine HCx.out.mono ?_
            rintro e w2 ⟨rfl, hb⟩
            have HK2 := Lib.hid (HKX.out.step hb)
            have HB2 := Lib.hid (HBX.out.trans (hb.mono HBX.out.size))
            clear hb
            go_wp2_with fail
            go_roundw
            case rel => exact ⟨i + 1, some (lt, ls, lr), by omega, by go_num, rfl, Lib.hid (by rw [HN.out, HM.out]), HK2, HB2⟩
            case measure => simp [intOf]; omega
      · have hrb : (r == rp) = false := by simpa using hr
        have HL := Lib.hid (show laterC rp o (t, s, r) = o by unfold laterC; rw [if_neg hr])
        have HKK := Lib.hid (show KbC (wr.alloc (cnB (t, s, r))) w.heap.size (cnB (o.getD (0, 0, 0))) by rw [hl]; exact HKX.out)
        clear hr hl
        go_wp2_with fail
        go_roundw
        case rel => exact ⟨i + 1, o, by omega, by go_num, rfl, Lib.hid (by rw [HN.out, HL.out]), HKK, HBX⟩
        case measure => simp [intOf]; omega
    · have HF := Lib.hid (show o = bstC rp l by rw [HO.out, List.take_of_length_le (by omega)])
      have d1 : ¬ (i : Int) < (l.length : Int) := by omega
      obtain ⟨⟨lt, ls, lr⟩, hl⟩ : ∃ c, o.getD (0, 0, 0) = c := ⟨_, rfl⟩
      rw [hl] at HK
      obtain ⟨q0, q1, q2⟩ := HK.out.box
      dsimp only at q0 q1 q2
      have gf : ∀ i, wr.frozen? ⟨w.heap.size, i, none⟩ = false := fun i => HK.out.frz
      have gf0 := gf 0
      have gf1 := gf 1
      have gf2 := gf 2
      have HV := Lib.hid (show bstV rp l = (lt, ls, lr) by unfold bstV; rw [← HF.out]; exact hl)
      have HBS := Lib.hid (((HB.out.setCell (p := ⟨w.heap.size, 0, none⟩) (Nat.le_refl _) (.int .i64 lt)).setCell (p := ⟨w.heap.size, 1, none⟩) (Nat.le_refl _) (.int .i64 ls)).setCell (p := ⟨w.heap.size, 2, none⟩) (Nat.le_refl _) (.int .i64 lr))
      have K1 : KbC (wr.setCell ⟨w.heap.size, 0, none⟩ (.int .i64 lt)) w.heap.size (.cells #[.int .i64 lt, .int .i64 ls, .int .i64 lr] 23) := HK.out.set (i := 0) (.int .i64 lt)
      have K2 : KbC ((wr.setCell ⟨w.heap.size, 0, none⟩ (.int .i64 lt)).setCell ⟨w.heap.size, 1, none⟩ (.int .i64 ls)) w.heap.size (.cells #[.int .i64 lt, .int .i64 ls, .int .i64 lr] 23) := K1.set (i := 1) (.int .i64 ls)
      have K3 : KbC (((wr.setCell ⟨w.heap.size, 0, none⟩ (.int .i64 lt)).setCell ⟨w.heap.size, 1, none⟩ (.int .i64 ls)).setCell ⟨w.heap.size, 2, none⟩ (.int .i64 lr)) w.heap.size (.cells #[.int .i64 lt, .int .i64 ls, .int .i64 lr] 23) := K2.set (i := 2) (.int .i64 lr)
      have k0 : (wr.setCell ⟨w.heap.size, 0, none⟩ (.int .i64 lt)).cell? ⟨w.heap.size, 0, none⟩ = some (.int .i64 lt) := K1.cell rfl
      have k1 : ((wr.setCell ⟨w.heap.size, 0, none⟩ (.int .i64 lt)).setCell ⟨w.heap.size, 1, none⟩ (.int .i64 ls)).cell? ⟨w.heap.size, 1, none⟩ = some (.int .i64 ls) := K2.cell rfl
      have k2 : (((wr.setCell ⟨w.heap.size, 0, none⟩ (.int .i64 lt)).setCell ⟨w.heap.size, 1, none⟩ (.int .i64 ls)).setCell ⟨w.heap.size, 2, none⟩ (.int .i64 lr)).cell? ⟨w.heap.size, 2, none⟩ = some (.int .i64 lr) := K3.cell rfl
      clear hl K1 K2 K3
      go_wp2_with fail
      refine bodyPost_ret (v := .tuple #[.agg #[.int .i64 lt, .int .i64 ls, .int .i64 lr], .bool o.isSome]) (by simp [results, Tryz.results199, go_sem, k0, k1, k2]) rfl ⟨by rw [HV.out, ← HF.out]; rfl, ?_⟩
      exact HBS.out
set_option maxHeartbeats 8000000 in
theorem least_s (ao : Option Addr) (n cap : Nat) (l : List Cn) (w : World) (h : CnsAt w ao n cap l) :
    Calls Tryz.prog 152 #[.slice ao n cap] w fun e w' => ∃ bo m dap, e = .returned (.slice bo m dap) ∧ CnsAt w' bo m dap (lstC l) ∧ Below w.heap.size w w' := by
  have H := Lib.hid h
  clear h
  have HLt := Lib.hid (fun (rp : Int) (c : Cn) (o : Option Cn) W (hW : CnsAt W ao n cap l) (ho : bstC rp l = o) (hc : o.getD (0, 0, 0) = c) => show Calls Tryz.prog 199 #[.int .i64 rp, .slice ao n cap] W (fun q w' => q = .returned (.tuple #[.agg #[.int .i64 c.1, .int .i64 c.2.1, .int .i64 c.2.2], .bool o.isSome]) ∧ Below W.heap.size W w') from by
    subst ho; subst hc; exact latest_s rp ao n cap l W hW)
  have HP := Lib.hid (show ∀ k, (List.range (k + 1)).filterMap (fun (j : Nat) => bstC (j : Int) l) = (List.range k).filterMap (fun (j : Nat) => bstC (j : Int) l) ++ (bstC (k : Int) l).toList from fun k => by
    rw [List.range_succ, List.filterMap_append]
    congr 1)
  go_enter Tryz.func152, Tryz.ntmps152
  go_wp2_with fail
  go_loopw [3, 7] (fun sv iv wr => ∃ (i m : Nat) (P : List Cn), i ≤ 8 ∧ iv = .int .i64 i ∧ m ≤ i ∧ Hid (P = (List.range i).filterMap (fun (j : Nat) => bstC (j : Int) l)) ∧ wr.ownsRow w.heap.size 23 3 sv m (ccells P) ∧ Hid (Below w.heap.size w wr)) (fun _ iv _ => 8 - (intOf iv).toNat)
  case atStart => exact ⟨0, 0, [], Nat.zero_le _, rfl, Nat.le_refl _, Lib.hid rfl, World.ownsRow_nil _ _ _ _, Lib.hid (Below.refl _ _)⟩
  case round =>
    obtain ⟨i, m, P, hi, rfl, hm, HPi, hown, HB⟩ := hrel
    by_cases hlt : i < 8
    · have d1 : (i : Int) < 8 := by omega
      obtain ⟨o, ho⟩ : ∃ o, bstC (i : Int) l = o := ⟨_, rfl⟩
      have HN := Lib.hid (show (List.range (i + 1)).filterMap (fun (j : Nat) => bstC (j : Int) l) = P ++ o.toList by rw [HP.out, ← HPi.out, ho])
      obtain ⟨⟨t, s, r⟩, hc⟩ : ∃ c, o.getD (0, 0, 0) = c := ⟨_, rfl⟩
      have HCl := Lib.hid (HLt.out (i : Int) (t, s, r) o wr (H.out.below HB.out) ho hc)
      dsimp only at HCl
      clear ho
      go_wp2_with fail
      refine HCl.out.mono ?_
      rintro e w1 ⟨rfl, hb⟩
      have HO1 := Lib.hid (own_belowC hown hb)
      have HB1 := Lib.hid (HB.out.trans (hb.mono HB.out.size))
      have HB2 := Lib.hid (HB1.out.alloc HB1.out.size (cnB (t, s, r)))
      have HO2 := Lib.hid (HO1.out.alloc (cnB (t, s, r)))
      unfold cnB at HB2 HO2
      dsimp only at HB2 HO2
      clear hb hown
      cases o with
      | none =>
        go_wp2_with fail
        go_roundw
        case rel => exact ⟨i + 1, m, P, by omega, by go_num, by omega, Lib.hid (by rw [HN.out]; simp), HO2.out, HB2⟩
        case measure => simp [intOf]; omega
      | some d =>
        have hc : d = (t, s, r) := hc
        subst hc
        have HSz := Lib.hid HB2.out.size
        go_wp2_with (at_builtin; refine app_cns ((w1.alloc _).alloc _) (HO2.out.alloc _) (.tmp 17) (.tmp 19) (some ⟨w1.heap.size + 1, 0, none⟩) 1 1 [(t, s, r)] ?_ ?_ ?_ ?_ ?_ ?_ ?_ ?_; exact rfl; exact rfl; exact rfl; exact rfl; (have := cns_new (w1.alloc (cnB (t, s, r))) (t, s, r); rw [World.size_alloc] at this; exact this); omega; (show w.heap.size ≤ ((w1.heap.push _).push _).size; have := HB1.out.size; simp; omega); intro v3 W3 hown3 hb3; have hB3 := (HB2.out.alloc HSz.out _).trans hb3)
        rw [← ccells_app] at hown3
        go_roundw
        case rel => exact ⟨i + 1, m + 1, P ++ [(t, s, r)], by omega, by go_num, by omega, Lib.hid (by rw [HN.out]; rfl), hown3, Lib.hid hB3⟩
        case measure => simp [intOf]; omega
    · obtain rfl : i = 8 := by omega
      have HF := Lib.hid (show P = lstC l from HPi.out)
      obtain ⟨bo, dap, rfl, hat⟩ := cns_of_owns hown
      have HA := Lib.hid hat
      clear hat hown
      go_wp2_with fail
      go_ret
      exact ⟨bo, m, dap, rfl, by rw [← HF.out]; exact HA.out, HB.out⟩
end Csn
end Go.Proofs.YtbkignlbcneddaaGreatDoor
end

section
/-
  Contracts of slices.Concat at two slices of numbers, csn.Join and Note. Condition: at most 400000 numbers in each slice.
-/
set_option maxRecDepth 100000
set_option maxRecDepth 100000
namespace Go.Proofs.YtbkignlbcneddaaGreatDoor
namespace Csn
open Go.RowKit Go.PlainAid
def twO (ao : Option Addr) (n cap : Nat) (bo : Option Addr) (m dap : Nat) : Obj := .cells #[.slice ao n cap, .slice bo m dap] 43
set_option maxHeartbeats 8000000 in
theorem concat_s (g : Nat) (ao bo : Option Addr) (n m cap dap : Nat) (l k : List Cn) (w : World) (hg : KbC w g (twO ao n cap bo m dap)) (h : CnsAt w ao n cap l) (hk : CnsAt w bo m dap k) (hn : n ≤ 400000) (hm : m ≤ 400000) :
    Calls Tryz.prog 153 #[.slice (some ⟨g, 0, none⟩) 2 2] w fun e w' => ∃ xo q xc, e = .returned (.slice xo q xc) ∧ CnsAt w' xo q xc (l ++ k) ∧ Below w.heap.size w w' := by
  have H := Lib.hid h
  have HK := Lib.hid hk
  have HG := Lib.hid hg
  clear h hk
  have c0 : w.cell? ⟨g, 0, none⟩ = some (.slice ao n cap) := hg.cell rfl
  have c1 : w.cell? ⟨g, 1, none⟩ = some (.slice bo m dap) := hg.cell rfl
  clear hg
  have e0 : ¬ (n : Int) < 0 := by omega
  have e1 : ¬ (n : Int) + (m : Int) < 0 := by omega
  have HGr := Lib.hid (fun (v : Int) (hv : v = ((n + m : Nat) : Int)) => show Calls Tryz.prog 200 #[.slice none 0 0, .int .i64 v] w _ from hv ▸ grow_s (n + m) w (by omega))
  go_enter Tryz.func153, Tryz.ntmps153
  go_wp2_with fail
  refine wp_loop_rounds 3 ?_
  rw [rounds_succ]
  go_wp2_with fail
  rw [rounds_succ]
  go_wp2_with fail
  rw [rounds_succ]
  go_wp2_with fail
  refine (HGr.out _ (by first | rfl | omega)).mono ?_
  rintro e w1 ⟨v, rfl, hown, hb⟩
  have HB1 := Lib.hid hb
  have HA1 := Lib.hid (H.out.below hb)
  have HK1 := Lib.hid (HK.out.below hb)
  have HG1 := Lib.hid (HG.out.step hb)
  have HO1 := Lib.hid hown
  clear hb hown c0 c1
  have c0 : w1.cell? ⟨g, 0, none⟩ = some (.slice ao n cap) := HG1.out.cell rfl
  have c1 : w1.cell? ⟨g, 1, none⟩ = some (.slice bo m dap) := HG1.out.cell rfl
  go_wp2_with fail
  refine wp_loop_rounds 3 ?_
  rw [rounds_succ]
  go_wp2_with (at_builtin; refine app_cns w1 HO1.out (.tmp 31) (.tmp 32) ao n cap l ?_ ?_ ?_ ?_ ?_ ?_ ?_ ?_; exact rfl; exact rfl; exact rfl; exact rfl; exact HA1.out; omega; exact HB1.out.size; intro v2 w2 hown2 hb2)
  have HB2 := Lib.hid (HB1.out.trans hb2)
  have HO2 := Lib.hid hown2
  have HK2 := Lib.hid (HK.out.below HB2.out)
  have HG2 := Lib.hid (HG.out.step HB2.out)
  clear hb2 hown2 c0 c1
  have c1 : w2.cell? ⟨g, 1, none⟩ = some (.slice bo m dap) := HG2.out.cell rfl
  rw [rounds_succ]
  go_wp2_with (at_builtin; refine app_cns w2 HO2.out (.tmp 31) (.tmp 32) bo m dap k ?_ ?_ ?_ ?_ ?_ ?_ ?_ ?_; exact rfl; exact rfl; exact rfl; exact rfl; exact HK2.out; omega; exact HB2.out.size; intro v3 w3 hown3 hb3)
  have HB3 := Lib.hid (HB2.out.trans hb3)
  rw [List.nil_append, ← ccells_app] at hown3
  obtain ⟨xo, xc, hv3, hat⟩ := cns_of_owns hown3
  rw [hv3]
  have HA3 := Lib.hid hat
  clear hb3 hown3 hat c1 hv3
  rw [rounds_succ]
  go_wp2_with fail
  go_ret
  exact ⟨xo, _, xc, rfl, HA3.out, HB3.out⟩
end Csn
end Go.Proofs.YtbkignlbcneddaaGreatDoor
end

section
/-
  Contracts of csn.Join and Note. Condition: at most 400000 numbers in each slice.
-/
set_option maxRecDepth 100000
set_option maxRecDepth 100000
namespace Go.Proofs.YtbkignlbcneddaaGreatDoor
namespace Csn
open Go.RowKit Go.PlainAid
set_option maxHeartbeats 8000000 in
theorem join_s (ao bo : Option Addr) (n m cap dap : Nat) (l k : List Cn) (w : World) (h : CnsAt w ao n cap l) (hk : CnsAt w bo m dap k) (hn : n ≤ 400000) (hm : m ≤ 400000) :
    Calls Tryz.prog 118 #[.slice ao n cap, .slice bo m dap] w fun e w' => ∃ xo q xc, e = .returned (.slice xo q xc) ∧ CnsAt w' xo q xc (joinC l k) ∧ Below w.heap.size w w' := by
  have H := Lib.hid h
  have HK := Lib.hid hk
  have HL := Lib.hid (vecO_len l)
  have HLk := Lib.hid (vecO_len k)
  have hl1 := h.1
  have hl2 := hk.1
  clear h hk
  go_enter Tryz.func118, Tryz.ntmps118
  go_wp2_with fail
  refine (vector_s ao n cap l _ H.out).mono ?_
  rintro e w1 ⟨xo, xn, xc, rfl, hx, hb⟩
  have HB1 := Lib.hid hb
  have HX1 := Lib.hid hx
  have HK1 := Lib.hid (HK.out.below hb)
  clear hx hb
  go_wp2_with fail
  refine (vector_s bo m dap k _ HK1.out).mono ?_
  rintro e w2 ⟨yo, yn, yc, rfl, hy, hb⟩
  have HB2 := Lib.hid (HB1.out.trans (hb.mono HB1.out.size))
  have HX2 := Lib.hid (HX1.out.below hb)
  have HY2 := Lib.hid hy
  clear hy hb
  have HB3 := Lib.hid (HB2.out.alloc HB2.out.size (twO xo xn xc yo yn yc))
  have HX3 := Lib.hid (HX2.out.below (box_below w2 (twO xo xn xc yo yn yc)))
  have HY3 := Lib.hid (HY2.out.below (box_below w2 (twO xo xn xc yo yn yc)))
  have HG3 := Lib.hid (kbc_new w2 (twO xo xn xc yo yn yc))
  have hxn : xn ≤ 400000 := by have h1 := HX2.out.1; have h2 := HL.out; omega
  have hyn : yn ≤ 400000 := by have h1 := HY2.out.1; have h2 := HLk.out; omega
  have HCc := Lib.hid (concat_s w2.heap.size xo yo xn yn xc yc _ _ _ HG3.out HX3.out HY3.out hxn hyn)
  unfold twO at HCc HB3
  go_wp2_with fail
  refine HCc.out.mono ?_
  rintro e w4 ⟨zo, zn, zc, rfl, hz, hb⟩
  have HB4 := Lib.hid (HB3.out.trans (hb.mono HB3.out.size))
  have HZ4 := Lib.hid hz
  clear hz hb
  go_wp2_with fail
  refine (least_s zo zn zc _ _ HZ4.out).mono ?_
  rintro e w5 ⟨uo, un, uc, rfl, hu, hb⟩
  have HB5 := Lib.hid (HB4.out.trans (hb.mono HB4.out.size))
  have HU := Lib.hid hu
  clear hu hb
  go_wp2_with fail
  go_ret
  exact ⟨uo, un, uc, rfl, HU.out, HB5.out⟩
set_option maxHeartbeats 8000000 in
theorem note_s (ao : Option Addr) (n cap : Nat) (l : List Cn) (c : Cn) (w : World) (h : CnsAt w ao n cap l) (hn : n ≤ 400000) :
    Calls Tryz.prog 73 #[.slice ao n cap, cnV c] w fun e w' => ∃ xo q xc, e = .returned (.slice xo q xc) ∧ CnsAt w' xo q xc (noteC l c) ∧ Below w.heap.size w w' := by
  have HB := Lib.hid (below_allocs [cnB c, cnB c] _ _ _ (Below.refl w.heap.size w) (Nat.le_refl _))
  have HN := Lib.hid (show CnsAt ((w.alloc (cnB c)).alloc (cnB c)) (some ⟨w.heap.size + 1, 0, none⟩) 1 1 [c] by
    have := cns_new (w.alloc (cnB c)) c
    rw [World.size_alloc] at this; exact this)
  have HJ := Lib.hid (join_s ao (some ⟨w.heap.size + 1, 0, none⟩) n 1 cap 1 l [c] _ (h.below HB.out) HN.out hn (by omega))
  clear h HN
  obtain ⟨t, s, r⟩ := c
  show Calls _ _ #[.slice ao n cap, .agg #[.int .i64 t, .int .i64 s, .int .i64 r]] w _
  unfold cnB at HB HJ
  dsimp only [List.foldl] at HB HJ
  go_enter Tryz.func73, Tryz.ntmps73
  go_wp2_with fail
  refine HJ.out.mono ?_
  rintro e w5 ⟨uo, un, uc, rfl, hu, hb⟩
  have HB5 := Lib.hid (HB.out.trans (hb.mono HB.out.size))
  have HU := Lib.hid hu
  clear hu hb
  go_wp2_with fail
  go_ret
  exact ⟨uo, un, uc, rfl, HU.out, HB5.out⟩
end Csn
end Go.Proofs.YtbkignlbcneddaaGreatDoor
end

section
/-
  Contracts of the specification's Same and the law's few and sign. No condition.
-/
set_option maxRecDepth 100000
set_option maxRecDepth 100000
namespace Go.Proofs.YtbkignlbcneddaaGreatDoor
namespace Csn
open Go.RowKit Go.PlainAid
end Csn
end Go.Proofs.YtbkignlbcneddaaGreatDoor
end

section
/-
  Contract of the law's live: the chapter's examples. Condition: the package's words as the card says.
-/
set_option maxRecDepth 100000
set_option maxRecDepth 100000
namespace Go.Proofs.YtbkignlbcneddaaGreatDoor
namespace Csn
open Go.RowKit Go.PlainAid
theorem parse_k (s : ByteArray) (x y z q : Int) (w : World) (hs : s.size ≤ 1000000) (ho : MaxOk w) (hv : parVC s.data.toList = (x, y, z)) (he : parEC s.data.toList = q) :
    Calls Tryz.prog 93 #[.string s] w fun e w' => e = .returned (.tuple #[.agg #[.int .i64 x, .int .i64 y, .int .i64 z], .int .i64 q]) ∧ Below w.heap.size w w' := by
  have := parse_s s w hs ho
  rw [hv, he] at this
  exact this
theorem format_k (a b c : Int) (t : ByteArray) (w : World) (ho : TzOk w) (ht : fmtS (a, b, c) = t) :
    Calls Tryz.prog 41 #[.agg #[.int .i64 a, .int .i64 b, .int .i64 c]] w fun e w' => e = .returned (.string t) ∧ Below w.heap.size w w' := by
  subst ht; exact format_s (a, b, c) w ho
def WOk (w : World) : Prop := MaxOk w ∧ TzOk w
theorem WOk.below {w w' : World} (h : WOk w) (hb : Below w.heap.size w w') : WOk w' := ⟨h.1.below hb h.1.lt, h.2.below hb⟩
/-- what the examples leave behind: three boxes and the joined vector -/
structure BgC (w : World) (b1 b5 b7 : Nat) (vo : Option Addr) (vn vc : Nat) (V : World) : Prop where
  low : Below w.heap.size w V
  b1 : KbC V b1 (.cells #[.int .i64 5, .int .i64 17, .int .i64 2] 23)
  b5 : KbC V b5 (.cells #[.int .i64 5, .int .i64 18, .int .i64 1] 23)
  b7 : KbC V b7 (.cells #[.int .i64 9, .int .i64 0, .int .i64 1] 23)
  v : CnsAt V vo vn vc [(4, 1, 0), (2, 0, 1), (5, 0, 2)]
theorem BgC.step {w V X : World} {b1 b5 b7 : Nat} {vo : Option Addr} {vn vc : Nat} (h : BgC w b1 b5 b7 vo vn vc V) (hb : Below V.heap.size V X) : BgC w b1 b5 b7 vo vn vc X :=
  ⟨h.low.trans (hb.mono h.low.size), h.b1.step hb, h.b5.step hb, h.b7.step hb, h.v.below hb⟩
end Csn
end Go.Proofs.YtbkignlbcneddaaGreatDoor
end

section
/-
  What the proofs of csn's laws share: the witness at a world that lays the listed variables, the table's cell, numbers and lists of numbers that came in.
-/
set_option maxRecDepth 100000
namespace Go.Proofs.YtbkignlbcneddaaGreatDoor
namespace Csn
open Go.ChangeShapes Go.WideShapes Go.ChangeAt Go.RowKit
theorem own : ownKnob Tryz.prog.godebug = none := by kernel_rfl
theorem witness_row {H : Type} {enc : TypeId × Value → H} {C : Checked} {os : Os} {f : FuncId} {fn : Func} {s : OpenSpec} {conds : List PathCond} {apart : Bool} {laid : List (String × DataW Unit)} (modest : Bool) (w0 : World) (args : Array Value) (hos : w0.os = os)
    (hsh : (w0.forCall (fun _ _ => 0) ⟨#[], args, []⟩).Shaped C.prog)
    (hok : Input.okWideB C.prog (w0.forCall (fun _ _ => 0) ⟨#[], args, []⟩) f ⟨#[], args, []⟩ = true)
    (hrow : s.preRow enc C.prog fn conds apart laid (w0.forCall (fun _ _ => 0) ⟨#[], args, []⟩).memory args) :
    ∃ (w : World) (tape : Tape) (i : Input), w.os = os ∧ (w.forCall tape i).Shaped C.prog ∧ i.vars = [] ∧ Input.okWide C.prog (w.forCall tape i) .any w.heap.size f i ∧
      s.preRow enc C.prog fn conds apart laid (w.forCall tape i).memory i.args ∧ ({ modest := modest } : Assume).holds C.prog (lone (Frame.enter C.prog f i.args .normal) [] (w.forCall tape i)) :=
  ⟨w0, fun _ _ => 0, ⟨#[], args, []⟩, hos, hsh, (Input.okWide_of_okWideB (base := 0) hok).1, (Input.okWide_of_okWideB hok).2, hrow, by
    simp only [Assume.holds]
    exact ⟨by simp, by simp, fun _ => Modest.zero, by simp, by simp⟩⟩
theorem laidOut : laidOutB Tryz.prog = true := by kernel_rfl
/-- arguments that are only read read behind the call as before it -/
theorem trodAll_below {H : Type} {enc : TypeId × Value → H} {W W' : World} (hb : Below W.heap.size W W') : ∀ (ts : List TypeId) (vs : List Value) (ds : List (DataW H)) (ps : List MemPlace),
    (∀ t ∈ ts, Tryz.prog.readableRec t = true ∧ t < Tryz.prog.types.size) → DataW.TrodAll enc Tryz.prog W 0 (fun _ => true) true ts vs ds ps → (∀ x ∈ ps, x.block < W.heap.size) →
    DataW.TrodAll enc Tryz.prog W' 0 (fun b => decide (b < W.heap.size)) true ts vs ds ps
  | [], vs, ds, ps, _, h, _ => by
    obtain ⟨rfl, rfl, rfl⟩ := trodAll_nil h
    exact trodAll_mk0
  | t :: ts, vs, ds, ps, hr, h, hl => by
    obtain ⟨v, vs', d, ds', p, q, rfl, rfl, rfl, h0, r0⟩ := trodAll_cons h
    exact trodAll_cons_mk (Below.trod laidOut (hr t (by simp)).1 (hr t (by simp)).2 h0 hb (fun x hx => hl x (by simp [hx])))
      (trodAll_below hb ts vs' ds' q (fun t ht => hr t (by simp [ht])) r0 (fun x hx => hl x (by simp [hx])))
theorem max_ok {W : World} (h : W.ShapedOpen Tryz.prog) : MaxOk W :=
  cell_of_shapedOpen_int (zero := #[.int .i64 0]) (t := 3) h (of_decide_eq_true (by kernel_rfl)) (by kernel_rfl) rfl (by kernel_rfl) (by kernel_rfl) Tryz.underlying3
theorem wok_of {W : World} (hL : laidMetH Tryz.prog [("math/bits.deBruijn32tab", Rows.laid_math_bits_deBruijn32tab), ("math/bits.deBruijn64tab", Rows.laid_math_bits_deBruijn64tab), ("internal/strconv.uint64pow10", Rows.laid_internal_strconv_uint64pow10)] W) (hsh : W.ShapedOpen Tryz.prog) : WOk W := by
  rw [MakeChecks.laidMetH_plain _ _ _ (by kernel_rfl)] at hL
  refine ⟨max_ok hsh, ?_⟩
  have h : Lib.TabIs Tryz.prog W "math/bits.deBruijn64tab" .u8 [0, 1, 56, 2, 57, 49, 28, 3, 61, 58, 42, 50, 38, 29, 17, 4, 62, 47, 59, 36, 45, 43, 51, 22, 53, 39, 33, 30, 24, 18, 12, 5, 63, 55, 48, 27, 60, 41, 37, 16, 46, 35, 44, 21, 52, 32, 23, 11, 54, 26, 40, 15, 34, 20, 31, 10, 25, 14, 19, 9, 13, 8, 7, 6] := Lib.tabIs_of_head (g := 6) (by kernel_rfl) (by kernel_rfl) Tryz.underlying256 Tryz.underlying5 (by kernel_rfl) (by kernel_rfl) hL.tail
  exact h.cell (g := 6) (by kernel_rfl) 15 (by decide)
theorem cells_cn : Tryz.prog.cellsOf 23 = 3 := by kernel_rfl
set_option maxRecDepth 100000 in
/-- a number that came in -/
theorem open_cn {H : Type} {enc : TypeId × Value → H} {W : World} {base : Nat} {v : Value} {d : DataW H} {p : List MemPlace} (hval : Value.okWide Tryz.prog W .any base 23 v)
    (h0 : DataW.Trod enc Tryz.prog W 0 (fun _ => true) true 23 v d p) : ∃ u : Cn, v = cnV u := by
  obtain ⟨v0, v1, v2, y0, y1, y2, n, rfl, _, _, h1, h2, h3⟩ := Go.Joins.open_agg3 Tryz.underlying23 (by kernel_rfl) cells_cn hval h0
  obtain ⟨a, ha, _⟩ := DataW.trod_int Tryz.underlying3 h1
  obtain ⟨b, hb, _⟩ := DataW.trod_int Tryz.underlying3 h2
  obtain ⟨c, hc, _⟩ := DataW.trod_int Tryz.underlying3 h3
  simp only [List.cons.injEq, and_true] at ha hb hc
  rw [ha, hb, hc]
  exact ⟨(a, b, c), rfl⟩
theorem choose_cns {w : World} {b off len : Nat} (h : ∀ i, i < len → ∃ x y z : Int, w.cell? ⟨b, off + i * 3, none⟩ = some (.int .i64 x) ∧ w.cell? ⟨b, off + i * 3 + 1, none⟩ = some (.int .i64 y) ∧ w.cell? ⟨b, off + i * 3 + 2, none⟩ = some (.int .i64 z)) :
    ∃ ps : List Cn, ps.length = len ∧ ∀ i, i < len → w.cell? ⟨b, off + i * 3, none⟩ = some (.int .i64 (cnA ps i).1) ∧ w.cell? ⟨b, off + i * 3 + 1, none⟩ = some (.int .i64 (cnA ps i).2.1) ∧ w.cell? ⟨b, off + i * 3 + 2, none⟩ = some (.int .i64 (cnA ps i).2.2) := by
  induction len with
  | zero => exact ⟨[], rfl, fun i hi => absurd hi (Nat.not_lt_zero _)⟩
  | succ n ih =>
    obtain ⟨ps, hl, hp⟩ := ih (fun i hi => h i (by omega))
    obtain ⟨x, y, z, hx, hy, hz⟩ := h n (by omega)
    refine ⟨ps ++ [(x, y, z)], by simp [hl], fun i hi => ?_⟩
    by_cases e : i = n
    · subst e
      have e2 : cnA (ps ++ [(x, y, z)]) i = (x, y, z) := by
        unfold cnA
        rw [List.getD_eq_getElem?_getD, List.getElem?_append_right (by omega), hl]; simp
      rw [e2]; exact ⟨hx, hy, hz⟩
    · have e2 : cnA (ps ++ [(x, y, z)]) i = cnA ps i := by
        unfold cnA
        rw [List.getD_eq_getElem?_getD, List.getD_eq_getElem?_getD, List.getElem?_append_left (by omega)]
      rw [e2]; exact hp i (by omega)
set_option maxRecDepth 100000 in
/-- a list of numbers that came in -/
theorem open_cns {H : Type} {enc : TypeId × Value → H} {W : World} {base : Nat} {v : Value} {d : DataW H} {p : List MemPlace} (hval : Value.okWide Tryz.prog W .any base 43 v)
    (h0 : DataW.Trod enc Tryz.prog W 0 (fun _ => true) true 43 v d p) : ∃ ao n cap ps, v = .slice ao n cap ∧ CnsAt W ao n cap ps := by
  obtain ⟨a0, len, cap, rfl⟩ := okWide_slice Tryz.underlying43 hval
  obtain ⟨fuel, hf⟩ := h0
  rcases Go.Deep.open_slice Tryz.underlying43 hf with ⟨hcs, hx⟩ | ⟨a, len', cap', m, n, D, Pl, hcs, _, hl, hm, hmm, hx, hcell⟩
  · simp [Value.cells] at hcs
    obtain ⟨rfl, rfl, rfl⟩ := hcs
    exact ⟨none, 0, 0, [], rfl, cns_nil W⟩
  · simp [Value.cells] at hcs
    obtain ⟨rfl, rfl, rfl⟩ := hcs
    simp only [if_true] at hmm
    rw [hmm] at hcell
    have each : ∀ i, i < len → ∃ x y z : Int, W.cell? (a.add (i * 3)) = some (.int .i64 x) ∧ W.cell? (a.add (i * 3 + 1)) = some (.int .i64 y) ∧ W.cell? (a.add (i * 3 + 2)) = some (.int .i64 z) := by
      intro i hi
      obtain ⟨cs', h1, h2⟩ := hcell i (by omega)
      rw [cells_cn] at h1
      obtain ⟨_, hlen, hc⟩ := World.cells?_some h1
      obtain ⟨y0, y1, y2, k, _, _, t0, t1, t2⟩ := Go.Deep.trod_struct3 Tryz.underlying23 h2
      match cs', hlen with
      | [v0, v1, v2], _ =>
        obtain ⟨x, hx, _⟩ := DataW.trod_int Tryz.underlying3 (show DataW.trod enc Tryz.prog W 0 (fun _ => true) true k 3 [v0] = some y0 from t0)
        obtain ⟨y, hy, _⟩ := DataW.trod_int Tryz.underlying3 (show DataW.trod enc Tryz.prog W 0 (fun _ => true) true k 3 [v1] = some y1 from t1)
        obtain ⟨z, hz, _⟩ := DataW.trod_int Tryz.underlying3 (show DataW.trod enc Tryz.prog W 0 (fun _ => true) true k 3 [v2] = some y2 from t2)
        simp only [List.cons.injEq, and_true] at hx hy hz
        subst hx hy hz
        have e0 := hc 0 (by omega)
        have e1 := hc 1 (by omega)
        have e2 := hc 2 (by omega)
        rw [Go.Deep.add_add] at e0 e1 e2
        exact ⟨x, y, z, by simpa using e0, by simpa using e1, by simpa using e2⟩
    by_cases hn : 0 < len
    · obtain ⟨b, off, spot⟩ := a
      obtain ⟨_, _, _, h1, _, _⟩ := each 0 hn
      have hspot : spot = none := by simpa [Addr.add] using World.cell?_spot h1
      subst hspot
      have hb : b < W.heap.size := by
        rw [add_plain] at h1
        exact World.block_lt_of_cell? W _ h1
      obtain ⟨ps, hpl, hps⟩ := choose_cns (w := W) (b := b) (off := off) (len := len) (fun i hi => by
        obtain ⟨x, y, z, c0, c1, c2⟩ := each i hi
        rw [add_plain] at c0 c1 c2
        rw [← Nat.add_assoc] at c1 c2
        exact ⟨x, y, z, c0, c1, c2⟩)
      exact ⟨_, len, cap, ps, rfl, ⟨hpl, hl, hm, fun _ => ⟨b, off, rfl, hb, fun j hj => hps j (by omega)⟩, fun e => by cases e⟩⟩
    · exact ⟨_, len, cap, [], rfl, ⟨by simp; omega, hl, hm, fun h => absurd h hn, fun e => by cases e⟩⟩
/-! ### ints -/
def IntsAt (w : World) (ao : Option Addr) (n cap : Nat) (ps : List Int) : Prop :=
  ps.length = n ∧ n ≤ cap ∧ cap ≤ maxLen ∧ (0 < n → ∃ b off, ao = some ⟨b, off, none⟩ ∧ b < w.heap.size ∧ ∀ j, j < ps.length → w.cell? ⟨b, off + j, none⟩ = some (.int .i64 (ps.getD j 0)))
theorem IntsAt.below {w w' : World} {ao : Option Addr} {n cap : Nat} {ps : List Int} (h : IntsAt w ao n cap ps) (hb : Below w.heap.size w w') : IntsAt w' ao n cap ps :=
  ⟨h.1, h.2.1, h.2.2.1, fun hn => by
    obtain ⟨b, off, e, hi, hc⟩ := h.2.2.2 hn
    exact ⟨b, off, e, Nat.lt_of_lt_of_le hi hb.size, fun j hj => by rw [hb.cell (p := ⟨b, off + j, none⟩) hi]; exact hc j hj⟩⟩
/-! ### contracts with their arguments written out -/
theorem vldb_k (a b c : Int) (r : Bool) (w : World) (h : vldC (a, b, c) = r) :
    Calls Tryz.prog 40 #[.agg #[.int .i64 a, .int .i64 b, .int .i64 c]] w fun q w' => q = .returned (.bool r) ∧ Below w.heap.size w w' := by
  subst h; exact (vld_s (a, b, c) w).mono fun q w' ⟨h1, h2⟩ => ⟨h1, h2 ▸ box_below w _⟩
theorem rvldb_k (a b c : Int) (r : Bool) (w : World) (h : vldC (a, b, c) = r) :
    Calls Tryz.prog 55 #[.agg #[.int .i64 a, .int .i64 b, .int .i64 c]] w fun q w' => q = .returned (.bool r) ∧ Below w.heap.size w w' := by
  subst h; exact (rvld_s (a, b, c) w).mono fun q w' ⟨h1, h2⟩ => ⟨h1, h2 ▸ box_below w _⟩
end Csn
end Go.Proofs.YtbkignlbcneddaaGreatDoor
end

section
/-
  Contract of the specification's Check. Condition: none beyond the list's own.
-/
set_option maxRecDepth 100000
set_option maxRecDepth 100000
namespace Go.Proofs.YtbkignlbcneddaaGreatDoor
namespace Csn
open Go.RowKit Go.PlainAid
end Csn
end Go.Proofs.YtbkignlbcneddaaGreatDoor
end

section
/-
  Contracts of the specification's vector, Covers, Within. Condition: none beyond the lists' own.
-/
set_option maxRecDepth 100000
set_option maxRecDepth 100000
namespace Go.Proofs.YtbkignlbcneddaaGreatDoor
namespace Csn
open Go.RowKit Go.PlainAid
structure CvR (w : World) (o : Obj) (bo : Option Addr) (m dap : Nat) (v : List Cn) (V : World) : Prop where
  low : Below w.heap.size w V
  kb : KbC V w.heap.size o
  v : CnsAt V bo m dap v
theorem CvR.step {w V X : World} {o : Obj} {bo : Option Addr} {m dap : Nat} {v : List Cn} (h : CvR w o bo m dap v V) (hb : Below V.heap.size V X) : CvR w o bo m dap v X :=
  ⟨h.low.trans (hb.mono h.low.size), h.kb.step hb, h.v.below hb⟩
end Csn
end Go.Proofs.YtbkignlbcneddaaGreatDoor
end
