/-
  Texts of the schema layer and of those beneath it, joined: ShelfG, ChgSo, ChgOp, ChgLg, ChgVs, ChgVt, ChgVu, ChgSi. Conditions stand at each contract.
-/
import Derived.Shelf.SlSortCmp.WholeK
import Derived.Shelf.SlSortCmp.NoneTotal
import Derived.Shelf.SlIter.AllValues
import Derived.Shelf.SlIter.Collect
import Derived.Test.YtbkignlbcneddaaGreatDoorProg
import Derived.Test.YtbkignlbcneddaaGreatDoorX03
import Derived.Test.YtbkignlbcneddaaGreatDoorX10
import Derived.Test.YtbkignlbcneddaaGreatDoorX11
import Derived.Test.YtbkignlbcneddaaGreatDoorX12
import Derived.Test.YtbkignlbcneddaaGreatDoorX18
import Derived.Test.YtbkignlbcneddaaGreatDoorX22
import Derived.Test.YtbkignlbcneddaaGreatDoorX23
set_option linter.unusedVariables false
set_option linter.unusedSimpArgs false
set_option linter.unnecessarySimpa false

section
/-
  DERIVED: THE SHELF's CONTRACTS AT THIS DUMP, IN PLAIN WORDS (tools/lay-plain.mjs out of 'TryzShelfGSrc.lean', which tools/lay-shelf.mjs wrote): THE SAME DECLARATIONS UNDER THE SAME NAMES: 'import', 'namespace', 'open', 'def', 'theorem' AND NOTHING ELSE: no command of the shelf's: FOR A HAND-IN. Each laying: the table of numbers ('.._ren') and one theorem, a field a fact of the dump's own or the kernel's comparison; each contract: ONE APPLICATION.
-/
namespace Go.Proofs
open Go.Shelf
def Tryz.layF6_ren : Go.Shelf.Ren := ⟨fun | 6 => 110 | 15 => 147 | 14 => 146 | 28 => 197 | 29 => 198 | 20 => 189 | 21 => 190 | 22 => 191 | 23 => 192 | 24 => 193 | 25 => 194 | 26 => 195 | 27 => 196 | 46 => 228 | 47 => 229 | 48 => 230 | 49 => 231 | 50 => 232 | 57 => 243 | n => n, fun | 22 => 28 | 24 => 26 | 25 => 96 | 3 => 3 | 39 => 151 | 0 => 0 | 53 => 202 | 55 => 204 | 4 => 4 | 46 => 196 | 45 => 195 | 50 => 153 | 5 => 5 | 9 => 9 | 66 => 228 | 70 => 232 | 76 => 244 | 77 => 245 | n => n, fun | n => n⟩
theorem Tryz.layF6 : Go.Proofs.SlLaysF0.n6 Tryz.prog Tryz.layF6_ren := {
  mixed := by kernel_rfl
  f6 := ⟨Tryz.f110.name, by decide, Tryz.func110.trans (congrArg some (by kernel_rfl))⟩
  f14 := ⟨Tryz.f146.name, by decide, Tryz.func146.trans (congrArg some (by kernel_rfl))⟩
  f15 := Tryz.func147.trans (congrArg some (by kernel_rfl))
  f20 := ⟨Tryz.f189.name, by decide, Tryz.func189.trans (congrArg some (by kernel_rfl))⟩
  f21 := ⟨Tryz.f190.name, by decide, Tryz.func190.trans (congrArg some (by kernel_rfl))⟩
  f22 := ⟨Tryz.f191.name, by decide, Tryz.func191.trans (congrArg some (by kernel_rfl))⟩
  f23 := ⟨Tryz.f192.name, by decide, Tryz.func192.trans (congrArg some (by kernel_rfl))⟩
  f24 := ⟨Tryz.f193.name, by decide, Tryz.func193.trans (congrArg some (by kernel_rfl))⟩
  f25 := ⟨Tryz.f194.name, by decide, Tryz.func194.trans (congrArg some (by kernel_rfl))⟩
  f26 := ⟨Tryz.f195.name, by decide, Tryz.func195.trans (congrArg some (by kernel_rfl))⟩
  f27 := ⟨Tryz.f196.name, by decide, Tryz.func196.trans (congrArg some (by kernel_rfl))⟩
  f28 := Tryz.func197.trans (congrArg some (by kernel_rfl))
  f29 := Tryz.func198.trans (congrArg some (by kernel_rfl))
  f46 := ⟨Tryz.f228.name, by decide, Tryz.func228.trans (congrArg some (by kernel_rfl))⟩
  f47 := Tryz.func229.trans (congrArg some (by kernel_rfl))
  f48 := Tryz.func230.trans (congrArg some (by kernel_rfl))
  f49 := ⟨Tryz.f231.name, by decide, Tryz.func231.trans (congrArg some (by kernel_rfl))⟩
  f50 := ⟨Tryz.f232.name, by decide, Tryz.func232.trans (congrArg some (by kernel_rfl))⟩
  f57 := ⟨Tryz.f243.name, by decide, Tryz.func243.trans (congrArg some (by kernel_rfl))⟩
  t0 := Tryz.underlying0
  a0 := Tryz.isAgg0
  z0 := Tryz.sizeOf0
  v0 := Tryz.zeroValue0
  t3 := Tryz.underlying3
  a3 := Tryz.isAgg3
  z3 := Tryz.sizeOf3
  v3 := Tryz.zeroValue3
  t4 := Tryz.underlying4
  a4 := Tryz.isAgg4
  z4 := Tryz.sizeOf4
  v4 := Tryz.zeroValue4
  t5 := Tryz.underlying5
  a5 := Tryz.isAgg5
  z5 := Tryz.sizeOf5
  v5 := Tryz.zeroValue5
  t9 := Tryz.underlying9
  a9 := Tryz.isAgg9
  z9 := Tryz.sizeOf9
  v9 := Tryz.zeroValue9
  t22 := Tryz.underlying28
  a22 := Tryz.isAgg28
  z22 := Tryz.sizeOf28
  v22 := Tryz.zeroValue28
  t25 := Tryz.underlying96
  a25 := Tryz.isAgg96
  z25 := Tryz.sizeOf96
  v25 := Tryz.zeroValue96
  t39 := Tryz.underlying151
  a39 := Tryz.isAgg151
  z39 := Tryz.sizeOf151
  v39 := Tryz.zeroValue151
  t45 := Tryz.underlying195
  a45 := Tryz.isAgg195
  z45 := Tryz.sizeOf195
  v45 := Tryz.zeroValue195
  t46 := Tryz.underlying196
  a46 := Tryz.isAgg196
  z46 := Tryz.sizeOf196
  v46 := Tryz.zeroValue196
  t50 := Tryz.underlying153
  a50 := Tryz.isAgg153
  z50 := Tryz.sizeOf153
  v50 := Tryz.zeroValue153
  t53 := Tryz.underlying202
  a53 := Tryz.isAgg202
  z53 := Tryz.sizeOf202
  v53 := Tryz.zeroValue202
  t55 := Tryz.underlying204
  a55 := Tryz.isAgg204
  z55 := Tryz.sizeOf204
  v55 := Tryz.zeroValue204
  t66 := Tryz.underlying228
  a66 := Tryz.isAgg228
  z66 := Tryz.sizeOf228
  v66 := Tryz.zeroValue228
  t70 := Tryz.underlying232
  a70 := Tryz.isAgg232
  z70 := Tryz.sizeOf232
  v70 := Tryz.zeroValue232
  t76 := Tryz.underlying244
  a76 := Tryz.isAgg244
  z76 := Tryz.sizeOf244
  v76 := Tryz.zeroValue244
  t77 := Tryz.underlying245
  a77 := Tryz.isAgg245
  z77 := Tryz.sizeOf245
  v77 := Tryz.zeroValue245 }
end Go.Proofs
end

section
/-
  Contract of slices.SortFunc with change.Merge's order, at a slice of change records of the call's own. Condition: at most 100000 records.
-/
set_option maxRecDepth 100000
namespace Go.Proofs.YtbkignlbcneddaaGreatDoor
open Go.RowKit Go.PlainAid Go.Shelf Go.Sort
open Csn (Cn cnV cnB cmpC ltC KbC box_below box_lt box_cells icmp_q or3_s orC_cmp cmpC_lt cmpC_gt cmpC_ge cmpC_eq ltC_irr ltC_trans ltC_tri ltC_asymm)
/-- the world has grown only: it has drawn, and there are new blocks -/
def GrowO (W V : World) : Prop := ∃ q os, V = Go.Sort.grow (W.drewN q) os
theorem growO_alloc {W V : World} (h : GrowO W V) (o : Obj) : GrowO W (V.alloc o) := by
  obtain ⟨q, os, rfl⟩ := h
  exact ⟨q, os ++ #[o], by rw [Go.Sort.alloc_eq_grow, Go.Sort.grow_grow]⟩
theorem growO_refl (W : World) : GrowO W W := ⟨0, #[], by simp [Go.Sort.grow, World.drewN]⟩
theorem growO_drewN {W V : World} (h : GrowO W V) (n : Nat) : GrowO W (V.drewN n) := by
  obtain ⟨q, os, rfl⟩ := h
  exact ⟨q + n, os, by simp [Go.Sort.grow, World.drewN, Nat.add_assoc]⟩
theorem growO_drew {W V : World} (h : GrowO W V) : GrowO W V.drew := growO_drewN h 1
theorem growO_trans {W V X : World} (h : GrowO W V) (k : GrowO V X) : GrowO W X := by
  obtain ⟨q, os, rfl⟩ := k
  have h2 := growO_drewN h q
  obtain ⟨p, os1, h1⟩ := h2
  rw [h1]
  exact ⟨p, os1 ++ os, by rw [Go.Sort.grow_grow]⟩
set_option maxHeartbeats 4000000 in
theorem ccmp_g (a b : Cn) (w : World) :
    Calls Tryz.prog 69 #[cnV a, cnV b] w fun e w' => e = .returned (.int .i64 (cmpC a b)) ∧ GrowO w w' := by
  have HE := Lib.hid (orC_cmp a b)
  obtain ⟨a0, a1, a2⟩ := a
  obtain ⟨b0, b1, b2⟩ := b
  show Calls _ _ #[.agg #[.int .i64 a0, .int .i64 a1, .int .i64 a2], .agg #[.int .i64 b0, .int .i64 b1, .int .i64 b2]] w _
  have L0 := Lib.hid (growO_alloc (growO_alloc (growO_refl w) (cnB (a0, a1, a2))) (cnB (b0, b1, b2)))
  obtain ⟨d0, d1, d2⟩ := box_cells (w.alloc (cnB (a0, a1, a2))) (b0, b1, b2)
  obtain ⟨c0, c1, c2⟩ : ((w.alloc (cnB (a0, a1, a2))).alloc (cnB (b0, b1, b2))).cell? ⟨w.heap.size, 0, none⟩ = some (.int .i64 a0) ∧ ((w.alloc (cnB (a0, a1, a2))).alloc (cnB (b0, b1, b2))).cell? ⟨w.heap.size, 1, none⟩ = some (.int .i64 a1) ∧ ((w.alloc (cnB (a0, a1, a2))).alloc (cnB (b0, b1, b2))).cell? ⟨w.heap.size, 2, none⟩ = some (.int .i64 a2) := by
    obtain ⟨e0, e1, e2⟩ := box_cells w (a0, a1, a2)
    have hb := box_below (w.alloc (cnB (a0, a1, a2))) (cnB (b0, b1, b2))
    have hl := box_lt w (cnB (a0, a1, a2))
    exact ⟨(hb.cell (p := ⟨w.heap.size, 0, none⟩) hl).trans e0, (hb.cell (p := ⟨w.heap.size, 1, none⟩) hl).trans e1, (hb.cell (p := ⟨w.heap.size, 2, none⟩) hl).trans e2⟩
  rw [World.size_alloc] at d0 d1 d2
  unfold cnB at c0 c1 c2 d0 d1 d2 L0
  dsimp only at c0 c1 c2 d0 d1 d2 L0
  go_enter Tryz.func69, Tryz.ntmps69
  go_wp2_with fail
  generalize (w.alloc (.cells #[.int .i64 a0, .int .i64 a1, .int .i64 a2] 23)).alloc (.cells #[.int .i64 b0, .int .i64 b1, .int .i64 b2] 23) = W0 at c0 c1 c2 d0 d1 d2 L0 ⊢
  refine wp_region_still_tail 15 (by kernel_rfl) (by kernel_rfl) ?_
  simp only [List.take_succ_cons, List.take_zero, List.drop_succ_cons, List.drop_zero]
  change wpStill _ _ (World.drew W0) _ _ _
  still_step
  still_step
  still_step
  still_step
  still_call (icmp_q a0 b0 _)
  still_step
  still_step
  still_step
  still_step
  still_call (icmp_q a1 b1 _)
  still_step
  still_step
  still_step
  still_step
  still_call (icmp_q a2 b2 _)
  refine wpStill_nil ?_
  change wpList _ _ _ _ _ (World.drew W0)
  go_wp2_with (go_at_call 112; refine (or3_s _ _ _ (World.drew W0)).mono ?_; rintro e w' ⟨rfl, rfl⟩)
  go_ret
  exact ⟨by rw [← HE.out]; rfl, growO_alloc (growO_drew L0.out) _⟩
instance : Inhabited Chg := ⟨zeroG⟩
def encG (g : Chg) : List Value := gcells g
set_option maxHeartbeats 4000000 in
theorem mord_s (x y : Chg) (W : World) : Calls Tryz.prog 68 #[chV x, chV y] W fun e w' => e = .returned (.int .i64 (cmpC x.c y.c)) ∧ GrowO W w' := by
  obtain ⟨⟨t, s, r⟩, o, i, n, a, v⟩ := x
  obtain ⟨⟨t2, s2, r2⟩, o2, i2, n2, a2, v2⟩ := y
  rw [chV_is, chV_is]
  have HG := Lib.hid (growO_alloc (growO_alloc (growO_refl W) (chB ⟨(t, s, r), o, i, n, a, v⟩)) (chB ⟨(t2, s2, r2), o2, i2, n2, a2, v2⟩))
  have hb := box_below (W.alloc (chB ⟨(t, s, r), o, i, n, a, v⟩)) (chB ⟨(t2, s2, r2), o2, i2, n2, a2, v2⟩)
  have HX := Lib.hid (Csn.KbC.step (Csn.kbc_new W (chB ⟨(t, s, r), o, i, n, a, v⟩)) hb)
  have HY := Lib.hid (Csn.kbc_new (W.alloc (chB ⟨(t, s, r), o, i, n, a, v⟩)) (chB ⟨(t2, s2, r2), o2, i2, n2, a2, v2⟩))
  rw [World.size_alloc] at HY
  clear hb
  rw [chB_is, chB_is] at HX HY HG
  have c0 := Csn.KbC.cell (i := 0) HX.out rfl
  have c1 := Csn.KbC.cell (i := 1) HX.out rfl
  have c2 := Csn.KbC.cell (i := 2) HX.out rfl
  have d0 := Csn.KbC.cell (i := 0) HY.out rfl
  have d1 := Csn.KbC.cell (i := 1) HY.out rfl
  have d2 := Csn.KbC.cell (i := 2) HY.out rfl
  have HC := Lib.hid (fun V => ccmp_g (t, s, r) (t2, s2, r2) V)
  obtain ⟨x, hx⟩ : ∃ x, cmpC (t, s, r) (t2, s2, r2) = x := ⟨_, rfl⟩
  rw [hx] at HC
  dsimp only
  rw [hx]
  clear hx
  go_enter Tryz.func68, Tryz.ntmps68
  go_wp2_with fail
  refine (HC.out _).mono ?_
  rintro e w1 ⟨rfl, hg⟩
  have HG := Lib.hid (growO_trans HG.out hg)
  clear hg
  go_wp2_with fail
  go_ret
  exact ⟨rfl, HG.out⟩
theorem ltg_from (x y : Chg) : ltOf (fun x y : Chg => cmpC x.c y.c) x y = decide (ltC x.c y.c) := by
  unfold ltOf
  show decide (cmpC x.c y.c < 0) = _
  rw [decide_eq_decide]
  exact ⟨fun h => Classical.byContradiction fun k => by have := cmpC_ge.2 k; omega, fun h => by have := cmpC_lt.2 h; omega⟩
theorem swo_g : SWO (ltOf fun x y : Chg => cmpC x.c y.c) where
  irrefl x := by rw [ltg_from]; exact decide_eq_false (ltC_irr _)
  trans x y z h1 h2 := by
    rw [ltg_from, decide_eq_true_iff] at *; exact ltC_trans h1 h2
  ntrans x y z h1 h2 := by
    rw [ltg_from, decide_eq_false_iff_not] at *
    unfold ltC at *; omega
theorem below_sortG (w : World) (B g m : Nat) (d : Array Chg) (os : Array Obj) (hg : B ≤ g) (hB : B ≤ w.heap.size) : RowKit.Below B w (sortWorldK encG 8 w g 0 m d os) := by
  have h1 : RowKit.Below B w (putRowK encG 8 (Go.Sort.ahead w m) g 0 d) := ⟨rfl, rfl, rfl, by show w.heap.size ≤ (w.heap.modify g _).size; simp, fun k hk => by
    show (w.heap.modify g _)[k]? = _
    rw [Array.getElem?_modify, if_neg (by omega)]⟩
  have h2 : (putRowK encG 8 (Go.Sort.ahead w m) g 0 d).heap.size = w.heap.size := by show (w.heap.modify g _).size = _; simp
  refine h1.trans ⟨rfl, rfl, rfl, ?_, fun k hk => ?_⟩
  · show _ ≤ (Go.Sort.grow _ os).heap.size
    rw [Go.Sort.size_grow]; omega
  · exact Go.Sort.heap_grow_old _ os (by omega)
theorem gA_get (zs : List Chg) (j : Nat) (h : j < zs.length) : (zs.toArray)[j]! = gA zs j := by
  unfold gA
  rw [getElem!_pos zs.toArray j (by simpa using h), List.getD_eq_getElem?_getD, List.getElem?_eq_getElem h]
  simp
theorem gholds_own {w : World} {base g n cap : Nat} {zs : List Chg} (h : w.ownsRow base 26 8 (.slice (some ⟨g, 0, none⟩) n cap) n (chcells zs)) (hn : 0 < n) : HoldsK encG 8 w g 0 zs.toArray := by
  obtain ⟨ao, c2, e, hat⟩ := chs_of_owns h
  cases e
  obtain ⟨h1, _, _, h4, _⟩ := hat
  obtain ⟨b, off, e, hi⟩ := h4 hn
  cases e
  intro j hj
  have hj2 : j < zs.toArray.size * 8 := by rw [size_flatK] at hj; exact hj
  have hs : zs.toArray.size = zs.length := by simp
  have hk := hi.2 (j / 8) (by omega) (j % 8) (by omega)
  rw [get_flatK _ _ _ _ hj2, gA_get zs (j / 8) (by omega)]
  refine ⟨?_, h.frozenAt _⟩
  rw [show 0 + j = 0 + j / 8 * 8 + j % 8 by omega, hk]
  have hl : j % 8 < (encG (gA zs (j / 8))).length := by unfold encG; rw [gcells_len]; omega
  show (encG (gA zs (j / 8)))[j % 8]? = some _
  rw [List.getElem?_eq_getElem hl, getElem!_pos (encG (gA zs (j / 8))) (j % 8) hl]
  rfl
theorem gholds_chs {w : World} {g cap : Nat} {d : Array Chg} (h : HoldsK encG 8 w g 0 d) (hg : g < w.heap.size) (h1 : d.size ≤ cap) (h2 : cap ≤ maxLen) : ChsAt w (some ⟨g, 0, none⟩) d.size cap d.toList := by
  refine ⟨by simp, h1, h2, fun _ => ⟨g, 0, rfl, hg, fun j hj k hk => ?_⟩, fun e => by cases e⟩
  have hj2 : j < d.size := by simpa using hj
  have e : gA d.toList j = d[j]! := by rw [← gA_get _ _ hj]
  have c0 := (h.cell hj2 (c := k) hk).1
  rw [c0, e]
  have hl : k < (encG d[j]!).length := by unfold encG; rw [gcells_len]; exact hk
  show _ = (encG d[j]!)[k]?
  rw [List.getElem?_eq_getElem hl, getElem!_pos (encG d[j]!) k hl]
/-- what sorting gives -/
def SortedG (zs qs : List Chg) : Prop := qs.Perm zs ∧ qs.Pairwise fun x y => ¬ ltC y.c x.c
theorem sortedG_of (zs : List Chg) (d' : Array Chg) (hp : PermIn 0 zs.toArray.size zs.toArray d') (hs : SortedIn (ltOf fun x y : Chg => cmpC x.c y.c) 0 zs.toArray.size d') : SortedG zs d'.toList := by
  obtain ⟨h1, _, h3⟩ := hp
  refine ⟨?_, ?_⟩
  · have e1 : d'.extract 0 zs.toArray.size = d' := by rw [← h1]; simp
    have e2 : zs.toArray.extract 0 zs.toArray.size = zs.toArray := by simp
    rw [e1, e2] at h3
    simpa using h3
  · rw [List.pairwise_iff_getElem]
    intro i j hi hj hij
    have := hs i j (Nat.zero_le _) hij (by rw [← h1]; simpa using hj)
    rw [ltg_from, decide_eq_false_iff_not] at this
    have ei : d'[i]! = d'.toList[i] := by rw [getElem!_pos d' i (by simpa using hi)]; simp
    have ej : d'[j]! = d'.toList[j] := by rw [getElem!_pos d' j (by simpa using hj)]; simp
    rw [ei, ej] at this
    exact this
theorem gsort_own (w : World) (base g n cap : Nat) (zs : List Chg) (h : w.ownsRow base 26 8 (.slice (some ⟨g, 0, none⟩) n cap) n (chcells zs)) (hn : n ≤ 100000) (h0 : 0 < n) (hbase : base ≤ g) (hB : base ≤ w.heap.size) :
    Calls Tryz.prog 110 #[.slice (some ⟨g, 0, none⟩) n cap, .func (.func 68) #[] #[]] w fun e w' =>
      e = .returned (.tuple #[]) ∧ ∃ qs, SortedG zs qs ∧ ChsAt w' (some ⟨g, 0, none⟩) n cap qs ∧ RowKit.Below base w w' := by
  obtain ⟨ao, c2, e, hat⟩ := chs_of_owns h
  cases e
  have hl := hat.1
  have hsz : zs.toArray.size = n := by simpa using hl
  have hg := (h.lt g rfl).2
  have hcap : n ≤ cap ∧ cap ≤ maxLen := ⟨hat.2.1, hat.2.2.1⟩
  have eg : ∀ args w, (callFunc 68 args).run Tryz.prog w = .ok (.enter 68 args) w := enters_of Tryz.func68 (by kernel_rfl) rfl
  have hH := gholds_own h h0
  have hcon := AnyQ.slices_SortFunc Tryz.layF6 8 (fun w => by rfl) (fun w => by rfl) encG (fun x => gcells_len x) (fun x v hv => chcells_one [x] v (by simpa [chcells, encG] using hv)) (fun x y => cmpC x.c y.c) swo_g 68 #[] g 0 cap zs.toArray w eg (fun _ _ _ _ x y => mord_s x y _) hH hg (by rw [hsz]; omega)
  rw [hsz] at hcon
  refine hcon.mono fun e w' h => ?_
  obtain ⟨he, d', m, os, hp, hs, rfl⟩ := h
  rw [← hsz] at hp hs
  have hz : d'.size = n := by have := hp.1; omega
  have hH2 := holdsK_sortWorldK_c encG 8 w g 0 zs.toArray d' m os hH hg (by rw [hz, hsz])
  have hsw : g < (sortWorldK encG 8 w g 0 m d' os).heap.size := Nat.lt_of_lt_of_le hg (size_sortWorldK_c encG 8 w g 0 m d' os)
  have hw := gholds_chs hH2 hsw (by rw [hz]; exact hcap.1) hcap.2
  rw [hz] at hw
  exact ⟨he, d'.toList, sortedG_of zs d' hp hs, hw, below_sortG w base g m d' os hbase hB⟩
end Go.Proofs.YtbkignlbcneddaaGreatDoor
end

section
/-
  Change records that came in: one by value, a slice of them. No condition.
-/
set_option maxRecDepth 100000
namespace Go.Proofs.YtbkignlbcneddaaGreatDoor
open Go.ChangeShapes Go.WideShapes Go.ChangeAt Go.RowKit
open Csn (Cn cnV)
theorem cells_chg : Tryz.prog.cellsOf 26 = 8 := by kernel_rfl
theorem list8 {α : Type} {l : List α} (h : l.length = 8) : ∃ a b c d e f g i, l = [a, b, c, d, e, f, g, i] := by
  match l, h with
  | [a, b, c, d, e, f, g, i], _ => exact ⟨a, b, c, d, e, f, g, i, rfl⟩
theorem list6 {α : Type} {l : List α} (h : l.length = 6) : ∃ a b c d e f, l = [a, b, c, d, e, f] := by
  match l, h with
  | [a, b, c, d, e, f], _ => exact ⟨a, b, c, d, e, f, rfl⟩
/-- what came in: ints of the range, strings of a string's length -/
structure InG (g : Chg) : Prop where
  c : cnDom g.c
  o : InR g.op
  id : g.id.size ≤ maxLen
  nm : g.nm.size ≤ maxLen
  ak : g.ak.size ≤ maxLen
  vl : g.vl.size ≤ maxLen
set_option maxHeartbeats 2000000 in
theorem ch_cells {H : Type} {enc : TypeId × Value → H} {W : World} {fuel : Nat} {cs : List Value} {x : DataW H × List MemPlace} (h : DataW.trod enc Tryz.prog W 0 (fun _ => true) true fuel 26 cs = some x) : ∃ g : Chg, cs = gcells g ∧ InG g := by
  obtain ⟨xs, n, _, rfl, hl, hlen, hf⟩ := DataW.trod_struct Tryz.underlying26 h
  rw [cells_chg] at hl
  obtain ⟨a, b, c, d, e, f, g, i, rfl⟩ := list8 hl
  obtain ⟨x0, x1, x2, x3, x4, x5, rfl⟩ := list6 hlen
  have t0 : DataW.trod enc Tryz.prog W 0 (fun _ => true) true n 23 [a, b, c] = some x0 := hf 0 _ rfl
  have t1 : DataW.trod enc Tryz.prog W 0 (fun _ => true) true n 24 [d] = some x1 := hf 1 _ rfl
  have t2 : DataW.trod enc Tryz.prog W 0 (fun _ => true) true n 9 [e] = some x2 := hf 2 _ rfl
  have t3 : DataW.trod enc Tryz.prog W 0 (fun _ => true) true n 9 [f] = some x3 := hf 3 _ rfl
  have t4 : DataW.trod enc Tryz.prog W 0 (fun _ => true) true n 9 [g] = some x4 := hf 4 _ rfl
  have t5 : DataW.trod enc Tryz.prog W 0 (fun _ => true) true n 9 [i] = some x5 := hf 5 _ rfl
  obtain ⟨y0, y1, y2, k, _, _, u0, u1, u2⟩ := Go.Deep.trod_struct3 Tryz.underlying23 t0
  obtain ⟨z0, q0, _, r0⟩ := DataW.trod_int Tryz.underlying3 (show DataW.trod enc Tryz.prog W 0 (fun _ => true) true k 3 [a] = some y0 from u0)
  obtain ⟨z1, q1, _, r1⟩ := DataW.trod_int Tryz.underlying3 (show DataW.trod enc Tryz.prog W 0 (fun _ => true) true k 3 [b] = some y1 from u1)
  obtain ⟨z2, q2, _, r2⟩ := DataW.trod_int Tryz.underlying3 (show DataW.trod enc Tryz.prog W 0 (fun _ => true) true k 3 [c] = some y2 from u2)
  obtain ⟨z3, q3, _, r3⟩ := DataW.trod_int Tryz.underlying24 t1
  obtain ⟨z4, q4, _, r4⟩ := DataW.trod_string Tryz.underlying9 t2
  obtain ⟨z5, q5, _, r5⟩ := DataW.trod_string Tryz.underlying9 t3
  obtain ⟨z6, q6, _, r6⟩ := DataW.trod_string Tryz.underlying9 t4
  obtain ⟨z7, q7, _, r7⟩ := DataW.trod_string Tryz.underlying9 t5
  simp only [List.cons.injEq, and_true] at q0 q1 q2 q3 q4 q5 q6 q7
  subst q0 q1 q2 q3 q4 q5 q6 q7
  exact ⟨⟨(z0, z1, z2), z3, z4, z5, z6, z7⟩, rfl, ⟨r0, r1, r2⟩, r3, r4, r5, r6, r7⟩
set_option maxHeartbeats 2000000 in
/-- a record that came in -/
theorem open_ch {H : Type} {enc : TypeId × Value → H} {W : World} {base : Nat} {v : Value} {d : DataW H} {p : List MemPlace} (hval : Value.okWide Tryz.prog W .any base 26 v)
    (h0 : DataW.Trod enc Tryz.prog W 0 (fun _ => true) true 26 v d p) : ∃ g : Chg, v = chV g ∧ InG g := by
  obtain ⟨cs, rfl, hsz⟩ := okWide_struct Tryz.underlying26 hval
  obtain ⟨fuel, hf⟩ := h0
  obtain ⟨g, hg, hi⟩ := ch_cells hf
  refine ⟨g, ?_, hi⟩
  have : cs.toList = gcells g := hg
  unfold chV
  rw [← this]
theorem choose_chs {w : World} {b off len : Nat} (h : ∀ i, i < len → ∃ g : Chg, InG g ∧ ∀ k, k < 8 → w.cell? ⟨b, off + i * 8 + k, none⟩ = (gcells g)[k]?) :
    ∃ ps : List Chg, ps.length = len ∧ (∀ g ∈ ps, InG g) ∧ ∀ i, i < len → ∀ k, k < 8 → w.cell? ⟨b, off + i * 8 + k, none⟩ = (gcells (gA ps i))[k]? := by
  induction len with
  | zero => exact ⟨[], rfl, (fun g hg => by cases hg), fun i hi => absurd hi (Nat.not_lt_zero _)⟩
  | succ n ih =>
    obtain ⟨ps, hl, hin, hp⟩ := ih (fun i hi => h i (by omega))
    obtain ⟨g, hg, hc⟩ := h n (by omega)
    refine ⟨ps ++ [g], by simp [hl], fun x hx => ?_, fun i hi => ?_⟩
    · rcases List.mem_append.1 hx with hx | hx
      · exact hin x hx
      · rw [List.mem_singleton.1 hx]; exact hg
    · by_cases e : i = n
      · subst e
        have e2 : gA (ps ++ [g]) i = g := by
          unfold gA
          rw [List.getD_eq_getElem?_getD, List.getElem?_append_right (by omega), hl]; simp
        rw [e2]; exact hc
      · have e2 : gA (ps ++ [g]) i = gA ps i := by
          unfold gA
          rw [List.getD_eq_getElem?_getD, List.getD_eq_getElem?_getD, List.getElem?_append_left (by omega)]
        rw [e2]; exact hp i (by omega)
set_option maxHeartbeats 2000000 in
/-- a list of records that came in -/
theorem open_chs {H : Type} {enc : TypeId × Value → H} {W : World} {base : Nat} {v : Value} {d : DataW H} {p : List MemPlace} (hval : Value.okWide Tryz.prog W .any base 28 v)
    (h0 : DataW.Trod enc Tryz.prog W 0 (fun _ => true) true 28 v d p) : ∃ ao n cap ps, v = .slice ao n cap ∧ ChsAt W ao n cap ps ∧ ∀ g ∈ ps, InG g := by
  obtain ⟨a0, len, cap, rfl⟩ := okWide_slice Tryz.underlying28 hval
  obtain ⟨fuel, hf⟩ := h0
  rcases Go.Deep.open_slice Tryz.underlying28 hf with ⟨hcs, hx⟩ | ⟨a, len', cap', m, n, D, Pl, hcs, _, hl, hm, hmm, hx, hcell⟩
  · simp [Value.cells] at hcs
    obtain ⟨rfl, rfl, rfl⟩ := hcs
    exact ⟨none, 0, 0, [], rfl, chs_nil W, fun g hg => by cases hg⟩
  · simp [Value.cells] at hcs
    obtain ⟨rfl, rfl, rfl⟩ := hcs
    simp only [if_true] at hmm
    rw [hmm] at hcell
    have each : ∀ i, i < len → ∃ g : Chg, InG g ∧ ∀ k, k < 8 → W.cell? (a.add (i * 8 + k)) = (gcells g)[k]? := by
      intro i hi
      obtain ⟨cs', h1, h2⟩ := hcell i (by omega)
      rw [cells_chg] at h1
      obtain ⟨_, hlen, hc⟩ := World.cells?_some h1
      obtain ⟨g, rfl, hg⟩ := ch_cells h2
      refine ⟨g, hg, fun k hk => ?_⟩
      have e0 := hc k hk
      rw [Go.Deep.add_add] at e0
      rw [e0, List.getElem?_eq_getElem (by rw [gcells_len]; exact hk)]
    by_cases hn : 0 < len
    · obtain ⟨b, off, spot⟩ := a
      obtain ⟨g0, _, h1⟩ := each 0 hn
      have h1 := h1 0 (by decide)
      have h1 : W.cell? (Addr.add ⟨b, off, spot⟩ (0 * 8 + 0)) = some (.int .i64 g0.c.1) := h1
      have hspot : spot = none := by simpa [Addr.add] using World.cell?_spot h1
      subst hspot
      have hb : b < W.heap.size := by
        rw [add_plain] at h1
        exact World.block_lt_of_cell? W _ h1
      obtain ⟨ps, hpl, hin, hps⟩ := choose_chs (w := W) (b := b) (off := off) (len := len) (fun i hi => by
        obtain ⟨g, hg, hc⟩ := each i hi
        refine ⟨g, hg, fun k hk => ?_⟩
        have := hc k hk
        rw [add_plain, ← Nat.add_assoc] at this
        exact this)
      exact ⟨_, len, cap, ps, rfl, ⟨hpl, hl, hm, fun _ => ⟨b, off, rfl, hb, fun j hj => hps j (by omega)⟩, fun e => by cases e⟩, hin⟩
    · exact ⟨_, len, cap, [], rfl, ⟨by simp; omega, hl, hm, fun h => absurd h hn, fun e => by cases e⟩, fun g hg => by cases hg⟩
end Go.Proofs.YtbkignlbcneddaaGreatDoor
end

section
/-
  Contracts of the law's reversed, lightAttrs and light, and of maps.Values at the map of change records. No condition but that on the length (reversed).
-/
set_option maxRecDepth 100000
namespace Go.Proofs.YtbkignlbcneddaaGreatDoor
open Go.RowKit Go.PlainAid
open Csn (Cn KbC kbc_new box_below)
theorem values_s (mb : Nat) (W : World) :
    Calls Tryz.prog 67 #[.map (some mb)] W fun e w' =>
      e = .returned (.func (.func 111) #[] #[.pointer (some ⟨W.heap.size, 0, none⟩)]) ∧ w' = W.alloc (.cells #[.map (some mb)] 90) := by
  go_enter Tryz.func67, Tryz.ntmps67
  go_wp2_with fail
  go_ret
  exact ⟨rfl, rfl⟩
/-- a truth that holds only if p does -/
def LtR (p : Prop) (e : Ending) : Prop := ∃ b, e = .returned (.bool b) ∧ (b = true → p)
theorem ltr_false (p : Prop) : LtR p (.returned (.bool false)) := ⟨false, rfl, fun e => by cases e⟩
theorem ltr_true {p : Prop} (h : p) : LtR p (.returned (.bool true)) := ⟨true, rfl, fun _ => h⟩
end Go.Proofs.YtbkignlbcneddaaGreatDoor
end

section
/-
  maps.Values's iterator at the map of change records: each record kept comes once. Condition: a map as Merge builds it.
-/
set_option maxRecDepth 100000
namespace Go.Proofs.YtbkignlbcneddaaGreatDoor
open Go.RowKit Go.PlainAid Go.Maps Go.Sort Go.Shelf
open Csn (Cn cnV cnB KbC kbc_new box_below)
/-- what has come of the records kept, and what is left -/
structure GotG (L : List Chg) (left : Lit → Bool) (gs : List Chg) : Prop where
  each : ∀ g ∈ gs, bestG L g.c = some g
  nodup : (gs.map (·.c)).Nodup
  rest : ∀ c, cnDom c → (left (cnK.lit c) = true ↔ (bestG L c).isSome = true ∧ c ∉ gs.map (·.c))
/-- all have come -/
def AllG (L : List Chg) (gs : List Chg) : Prop := (gs.map (·.c)).Nodup ∧ (∀ g ∈ gs, bestG L g.c = some g) ∧ ∀ g, cnDom g.c → bestG L g.c = some g → g ∈ gs
theorem GotG.all {L : List Chg} {left : Lit → Bool} {gs : List Chg} (h : GotG L left gs) (hl : ∀ kl, left kl = false) : AllG L gs := by
  refine ⟨h.nodup, h.each, fun g hd hb => ?_⟩
  have h1 := h.rest g.c hd
  rw [hl, hb] at h1
  have h2 : g.c ∈ gs.map (·.c) := Classical.byContradiction fun k => by have := h1.2 ⟨rfl, k⟩; cases this
  obtain ⟨d, hd2, e⟩ := List.mem_map.1 h2
  have h3 := h.each d hd2
  rw [e, hb] at h3
  cases h3
  exact hd2
theorem cn_lit_one {c d : Cn} (hc : cnDom c) (hd : cnDom d) (h : (cnK.lit c).sameKey (cnK.lit d) = true) : c = d := by
  refine KeyK.one (K := cnK) hc hd ?_
  have h2 : (Lit.string (keyBytes [.int .i64 c.1, .int .i64 c.2.1, .int .i64 c.2.2])).sameKey (Lit.string (keyBytes [.int .i64 d.1, .int .i64 d.2.1, .int .i64 d.2.2])) = true := h
  unfold Lit.sameKey at h2
  show Lit.string _ = Lit.string _
  simpa using h2
theorem cn_lit_self (c : Cn) : (cnK.lit c).sameKey (cnK.lit c) = true := by
  show (Lit.string _).sameKey (Lit.string _) = true
  unfold Lit.sameKey
  simp
theorem GotG.step {L : List Chg} {left : Lit → Bool} {gs : List Chg} (h : GotG L left gs) {g : Chg} (hd : cnDom g.c) (hb : bestG L g.c = some g) (hl : left (cnK.lit g.c) = true) :
    GotG L (fun z => left z && !z.sameKey (cnK.lit g.c)) (gs ++ [g]) := by
  have hn := ((h.rest g.c hd).1 hl).2
  refine ⟨fun d hm => ?_, ?_, fun c hc => ?_⟩
  · rcases List.mem_append.1 hm with k | k
    · exact h.each d k
    · rw [List.mem_singleton.1 k]; exact hb
  · rw [List.map_append, List.nodup_append]
    exact ⟨h.nodup, by simp, fun a ha b hb2 e => by
      rw [List.map_cons, List.map_nil, List.mem_singleton] at hb2
      rw [e, hb2] at ha
      exact hn ha⟩
  · rw [Bool.and_eq_true, h.rest c hc, List.map_append, List.mem_append, List.map_cons, List.map_nil, List.mem_singleton]
    by_cases e : c = g.c
    · subst e
      rw [cn_lit_self]
      simp
    · have : (cnK.lit c).sameKey (cnK.lit g.c) = false := by
        cases k : (cnK.lit c).sameKey (cnK.lit g.c)
        · rfl
        · exact absurd (cn_lit_one hc hd k) e
      rw [this]
      simp [e]
/-- what an entry of the map is -/
theorem entry_is {L : List Chg} {D : DataW Value} (hf : (∀ x, cnK.dom x → Maps.has D (cnK.lit x) = (bestV L x).isSome ∧ ∀ v, bestV L x = some v → ∀ z, D.atKey (cnK.lit x) z = .held v) ∧ ∀ l, Maps.has D l = true → ∃ x, cnK.dom x ∧ l = cnK.lit x)
    {kl : Lit} {c : Value} {y : DataW Value × List MemPlace} (hv : rawH c = some y) (hat : ∀ zd, D.atKey kl zd = y.1) : ∃ g : Chg, c = chV g ∧ cnDom g.c ∧ kl = cnK.lit g.c ∧ bestG L g.c = some g := by
  have hhas : Maps.has D kl = true := has_true_of_atKey hat
  obtain ⟨x, hx, rfl⟩ := hf.2 kl hhas
  obtain ⟨h1, h2⟩ := hf.1 x hx
  rw [hhas] at h1
  unfold bestV at h1 h2
  cases hb : bestG L x with
  | none => rw [hb] at h1; cases h1
  | some g =>
    rw [hb] at h2
    have h3 := h2 (chV g) rfl (.held c)
    have h4 := hat (.held c)
    unfold rawH at hv
    obtain rfl := Option.some.inj hv
    rw [h3] at h4
    injection h4 with h4
    have h5 := (best_mem hb).2.2.1
    exact ⟨g, h4.symm, by rw [h5]; exact hx, by rw [h5], by rw [h5]; exact hb⟩
end Go.Proofs.YtbkignlbcneddaaGreatDoor
end

section
/-
  maps.Values's iterator at the map of change records gives each record kept once (SeqGives). Condition: a map as Merge builds it.
-/
set_option maxRecDepth 100000
namespace Go.Proofs.YtbkignlbcneddaaGreatDoor
open Go.RowKit Go.PlainAid Go.Maps Go.Sort Go.Shelf
open Csn (Cn cnV cnB KbC kbc_new box_below)
set_option maxHeartbeats 4000000 in
theorem values1_in (n : Nat) (hn : 1 ≤ n) (l Bm b nn : Nat) (L : List Chg) (D0 : DataW Value) (J : List Chg → World → Prop)
    (hf : (∀ x, cnK.dom x → Maps.has D0 (cnK.lit x) = (bestV L x).isSome ∧ ∀ v, bestV L x = some v → ∀ z, D0.atKey (cnK.lit x) z = .held v) ∧ ∀ l, Maps.has D0 l = true → ∃ x, cnK.dom x ∧ l = cnK.lit x)
    (hY : ∀ pre x W, J pre W → pre.length < Maps.size D0 → YieldAt Fence.wide (n - 1) Tryz.prog l #[chV x] W fun e W' => e = .returned (.bool true) ∧ J (pre ++ [x]) W' ∧ KeepsWalks W W')
    (W : World) (hJ : AbidesFrom W.heap.size J) (hm : W.cell? ⟨Bm, 0, none⟩ = some (.map (some b))) (hown : W.ownsMap Tryz.prog 23 rawH b nn D0) (h0 : J [] W) :
    CallsIn Fence.wide n Tryz.prog 111 #[.func (.yield l) #[] #[], .pointer (some ⟨Bm, 0, none⟩)] W fun e W' => (∃ v, e = .returned v) ∧ ∃ gs, (AllG L gs ∧ gs.length ≤ Maps.size D0) ∧ J gs W' := by
  have HF := Lib.hid hf
  clear hf
  refine callsIn_of_wp Tryz.func111 rfl trivial ?_ rfl
  simp only [Tryz.ntmps111, List.size_toArray, List.length_cons, List.length_nil, Nat.reduceAdd, Nat.reduceSub, Array.replicate_succ, Array.replicate_zero, List.push_toArray, List.append_toArray, List.nil_append, List.cons_append]
  gi_wp2_with (first
    | (gi_at_range; refine wpListIn_range_own _ rfl _ 90 rfl 23 26 cn_law Tryz.underlying90 _ b nn _ rfl hown ?_; intro w0 hrg0 hg0 hs0)
    | gi_in)
  go_frame
  have HS := Lib.hid (show GotG L (Maps.has D0) [] from ⟨fun g h => (by cases h), List.nodup_nil, fun c hc => by rw [(HF.out.1 c hc).1]; unfold bestV; cases bestG L c <;> simp⟩)
  gi_loopw [4] (fun _ wr => ∃ (left : Lit → Bool) (cnt : Nat) (gs : List Chg), wr.ranges Tryz.prog 23 rawH b W.heap.size nn D0 left cnt ∧ gs.length + cnt ≤ Maps.size D0 ∧ Hid (GotG L left gs) ∧ J gs wr)
    (fun _ wr => wr.rangeLeft b W.heap.size)
  case atStart =>
    exact ⟨_, _, [], hrg0, by simp, HS, hJ [] W w0 none h0 hg0 (fun r e => by cases e)⟩
  case round =>
    obtain ⟨left, cnt, gs, hrg, hcs, hC, hJs⟩ := hrel
    gi_wp2_with (first
      | (gi_at_next; refine wpListIn_next_ranges _ rfl _ rfl 23 cn_law rawH id id (fun key kl hk => ⟨key, rfl⟩) (fun v _ _ => ⟨v, rfl⟩) b W.heap.size nn _ _ _ rfl hrg ?_ ?_)
      | gi_in)
    · intro hc0 hl0
      gi_wp2
      go_end0
      exact ⟨⟨_, rfl⟩, gs, ⟨hC.out.all hl0, by omega⟩, hJs⟩
    · intro x c kl yd yp w2 cnt2 hkey hlk hv hat hrg2 hlt hg2 hs2 hen
      obtain ⟨g, hcg, hdom, rfl, hbest⟩ := entry_is (y := (yd, yp)) HF.out hv hat
      have HC2 := Lib.hid (hC.out.step hdom hbest hlk)
      try simp only [id] at hcg hen ⊢
      subst hcg
      have hJ2 : J gs w2 := hJ gs wr w2 (some W.heap.size) hJs hg2 (fun r e => by cases e; exact ⟨Nat.le_refl _, hrg.iter_walk⟩)
      clear hv hat hkey hlk
      obtain ⟨⟨t, s, r⟩, o, id1, nm, ak, vl⟩ := g
      rw [chV_is] at hen
      have hbx := box_below w2 (.cells #[.int .i64 t, .int .i64 s, .int .i64 r, .int .i64 o, .string id1, .string nm, .string ak, .string vl] 26)
      have HK := Lib.hid (kbc_new w2 (.cells #[.int .i64 t, .int .i64 s, .int .i64 r, .int .i64 o, .string id1, .string nm, .string ak, .string vl] 26))
      have hJ3 : J gs (w2.alloc (.cells #[.int .i64 t, .int .i64 s, .int .i64 r, .int .i64 o, .string id1, .string nm, .string ak, .string vl] 26)) := hJ gs w2 _ none hJ2 (World.grownBy_alloc _ _ _) (fun r e => by cases e)
      obtain ⟨fn, tmps, assign, body, hy, hR⟩ := hY gs ⟨(t, s, r), o, id1, nm, ak, vl⟩ _ hJ3 (by omega)
      rw [chV_is] at hy
      have b0 := Csn.KbC.cell (i := 0) HK.out rfl
      have b1 := Csn.KbC.cell (i := 1) HK.out rfl
      have b2 := Csn.KbC.cell (i := 2) HK.out rfl
      have b3 := Csn.KbC.cell (i := 3) HK.out rfl
      have b4 := Csn.KbC.cell (i := 4) HK.out rfl
      have b5 := Csn.KbC.cell (i := 5) HK.out rfl
      have b6 := Csn.KbC.cell (i := 6) HK.out rfl
      have b7 := Csn.KbC.cell (i := 7) HK.out rfl
      have hrg2b := hrg2.of_walks (KeepsWalks.alloc w2 (.cells #[.int .i64 t, .int .i64 s, .int .i64 r, .int .i64 o, .string id1, .string nm, .string ak, .string vl] 26))
      gi_wp2
      refine hR.mono ?_
      rintro e W3 ⟨rfl, hJ4, hk3⟩
      gi_wp2
      have hrg3 := hrg2b.of_walks hk3
      go_roundw
      case rel => exact ⟨_, cnt2, gs ++ [⟨(t, s, r), o, id1, nm, ak, vl⟩], hrg3, by simp; omega, HC2, hJ4⟩
      case measure => rw [hrg3.left_eq, hrg.left_eq]; exact hlt
/-- maps.Values of the map that Merge has built gives each record kept, once -/
theorem values_gives (n : Nat) (hn : 1 ≤ n) (Bm b nn : Nat) (L : List Chg) (w : World) (hBm : Bm < w.heap.size) (hm : w.cell? ⟨Bm, 0, none⟩ = some (.map (some b))) (hk : KMap cnK w b nn (bestV L)) :
    ∃ D0 : DataW Value, w.ownsMap Tryz.prog 23 rawH b nn D0 ∧ SeqGives Fence.wide n Tryz.prog 111 #[.pointer (some ⟨Bm, 0, none⟩)] chV (fun gs => AllG L gs ∧ gs.length ≤ Maps.size D0) (Maps.size D0) w := by
  obtain ⟨D0, hown, hf⟩ := hk
  refine ⟨D0, hown, fun l J W hW hJ hY h0 => ?_⟩
  have hown' : W.ownsMap Tryz.prog 23 rawH b nn D0 := by
    have hbl := hown.lt
    obtain ⟨es, clock, hb, Ft, hs, hD⟩ := hown
    exact ⟨es, clock, (hW.block b hbl).trans hb, Ft, hs, hD⟩
  exact values1_in n hn l Bm b nn L D0 J hf hY W hJ ((hW.cell (p := ⟨Bm, 0, none⟩) hBm).trans hm) hown' h0
end Go.Proofs.YtbkignlbcneddaaGreatDoor
end

section
/-
  slices.AppendSeq at change records, against any iterator that SeqGives. Condition: at most 1000000 records.
-/
set_option maxRecDepth 100000
namespace Go.Proofs.YtbkignlbcneddaaGreatDoor
open Go.RowKit Go.PlainAid Go.Maps Go.Sort Go.Shelf
open Csn (Cn cnV cnB KbC kbc_new box_below info_cparts)
/-- the loop's two pieces of AppendSeq, as the program has them -/
def gqAssign : Code := (Code.region 2
        #[{ dst := some 5, op := Op.alloc 26, type := 0, pos := "iter.go:51", after := #[], guard := none },
          { dst := none, op := Op.store 26 (Operand.tmp 5) (Operand.tmp 7), type := 0, pos := "iter.go:51",
            after := #[{ on := 0, ground := Ground.data }, { on := 0, ground := Ground.phase }], guard := none }]
        false)
def gqBody : Code := (Code.block 1
        (Code.region 3
          #[{ dst := some 8, op := Op.load 28 (Operand.tmp 2), type := 28, pos := "iter.go:52", after := #[],
              guard := none },
            { dst := some 9, op := Op.load 26 (Operand.tmp 5), type := 26, pos := "iter.go:52", after := #[],
              guard := none },
            { dst := some 10, op := Op.buildSlice 28 1 #[(0, Operand.tmp 9)], type := 28, pos := "iter.go:52",
              after := #[{ on := 1, ground := Ground.data }], guard := none },
            { dst := some 11,
              op :=
                Op.call
                  { callee := Callee.builtin Builtin.append, args := #[Operand.tmp 8, Operand.tmp 10],
                    argTypes := #[28, 28] },
              type := 28, pos := "iter.go:52",
              after := #[{ on := 0, ground := Ground.data }, { on := 2, ground := Ground.data }], guard := none },
            { dst := none, op := Op.store 28 (Operand.tmp 2) (Operand.tmp 11), type := 0, pos := "iter.go:52",
              after :=
                #[{ on := 3, ground := Ground.data }, { on := 3, ground := Ground.chain },
                  { on := 0, ground := Ground.phase }, { on := 1, ground := Ground.phase },
                  { on := 2, ground := Ground.phase }, { on := 3, ground := Ground.phase }],
              guard := none }]
          false))
/-- the loop, as it lies in memory -/
def gqRec (fn : FuncId) (sv : Value) (Bs D : Nat) (st : LoopState) (pend : Option Code) : Loop :=
  { state := st, pending := pend, fn, tmps := #[.slice none 0 0, sv, .pointer (some ⟨Bs, 0, none⟩), undef, .slice none 0 0, undef, sv, undef, undef, undef, undef, undef, undef], params := #[7], assign := gqAssign, body := gqBody, defers := D }
/-- what stands between two rounds -/
structure GqAt (w0 : World) (fn : FuncId) (sv : Value) (Bs l D : Nat) (gs : List Chg) (W : World) : Prop where
  box : ∃ v, W.heap[Bs]? = some (.cells #[v] 28 (0, 0)) ∧ W.ownsRow w0.heap.size 26 8 v gs.length (chcells gs) ∧ (v = .slice none 0 0 ↔ gs = [])
  loop : W.heap[l]? = some (.loop (gqRec fn sv Bs D .ready none))
  defs : W.heap[D]? = some (.deferred (some []))
  below : Below w0.heap.size w0 W
theorem gq_abides (w0 : World) (fn : FuncId) (sv : Value) (Bs l D B : Nat) (hB : w0.heap.size ≤ B) : AbidesFrom B (GqAt w0 fn sv Bs l D) := fun s W W' row h hg hrow => by
  have hrow' : ∀ r, row = some r → ∃ o : Obj, W.heap[r]? = some o ∧ o.isWalk = true := fun r e => (hrow r e).2
  obtain ⟨v, hv, hr, hn⟩ := h.box
  exact ⟨⟨v, (grownBy_keeps hg hrow' hv rfl).trans hv, ownsRow_abides_a hr hg hrow', hn⟩, (grownBy_keeps hg hrow' h.loop rfl).trans h.loop, (grownBy_keeps hg hrow' h.defs rfl).trans h.defs,
    h.below.grown hg h.below.size (fun k e => Nat.le_trans hB (hrow k e).1)⟩
theorem ty_ne : (28 : TypeId) ≠ 26 := by decide
set_option maxHeartbeats 4000000 in
theorem gq_yield (m : Nat) (w0 : World) (fn : FuncId) (sv : Value) (Bs l D : Nat) (hBl : Bs ≠ l) (hDl : D ≠ l) (hDB : D ≠ Bs) (h0B : w0.heap.size ≤ Bs) (h0l : w0.heap.size ≤ l)
    (N : Nat) (hN : N ≤ 1000000) (gs : List Chg) (x : Chg) (W : World) (h : GqAt w0 fn sv Bs l D gs W) (hlen : gs.length < N) :
    YieldAt Fence.wide m Tryz.prog l #[chV x] W fun e W' => e = .returned (.bool true) ∧ GqAt w0 fn sv Bs l D (gs ++ [x]) W' ∧ KeepsWalks W W' := by
  obtain ⟨i0, hi, hz0, hz1, hz2⟩ := info_cparts info_ch
  obtain ⟨⟨t, s, r⟩, o, i, nm, ak, vl⟩ := x
  refine ⟨fn, #[.slice none 0 0, sv, .pointer (some ⟨Bs, 0, none⟩), undef, .slice none 0 0, undef, sv, chV ⟨(t, s, r), o, i, nm, ak, vl⟩, undef, undef, undef, undef, undef], gqAssign, gqBody, by simpa [gqRec] using run_yield (P := Tryz.prog) (args := #[chV ⟨(t, s, r), o, i, nm, ak, vl⟩]) h.loop rfl, roundIn_of_wpIn trivial ?_⟩
  have hlw : l < W.heap.size := (Array.getElem?_eq_some_iff.1 h.loop).1
  have h1 : GqAt w0 fn sv Bs l D gs (W.alloc (.cells #[.int .i64 t, .int .i64 s, .int .i64 r, .int .i64 o, .string i, .string nm, .string ak, .string vl] 26)) := gq_abides w0 fn sv Bs l D w0.heap.size (Nat.le_refl _) gs W _ none h (World.grownBy_alloc _ _ _) (fun r e => by cases e)
  have hK1 := kbc_new W (.cells #[.int .i64 t, .int .i64 s, .int .i64 r, .int .i64 o, .string i, .string nm, .string ak, .string vl] 26)
  have hk1 := KeepsWalks.alloc W (.cells #[.int .i64 t, .int .i64 s, .int .i64 r, .int .i64 o, .string i, .string nm, .string ak, .string vl] 26)
  clear h
  unfold gqAssign
  rw [chV_is]
  gi_wp2_with gi_round_op_a
  obtain ⟨W1, hW1⟩ : ∃ W1, W.alloc (.cells #[.int .i64 t, .int .i64 s, .int .i64 r, .int .i64 o, .string i, .string nm, .string ak, .string vl] 26) = W1 := ⟨_, rfl⟩
  obtain ⟨b5, hb5⟩ : ∃ b5, W.heap.size = b5 := ⟨_, rfl⟩
  rw [hW1] at h1 hK1 hk1 ⊢
  rw [hb5] at hK1 hlw ⊢
  clear hW1 hb5
  obtain ⟨v, hv, hrow, _⟩ := h1.box
  have hl : l < W1.heap.size := (Array.getElem?_eq_some_iff.1 h1.loop).1
  have hbr := run_beginRound (P := Tryz.prog) h1.loop rfl
  obtain ⟨W2, hW2⟩ : ∃ W2, W1.putObj l (.loop { gqRec fn sv Bs D .ready none with state := .busy }) = W2 := ⟨_, rfl⟩
  rw [hW2] at hbr
  have hg2 : W1.grownBy W2 (some l) := by rw [← hW2]; exact grownBy_putObj_a _ _ _
  have hk2 : KeepsWalks W1 W2 := by rw [← hW2]; exact KeepsWalks.putObj _ h1.loop rfl
  have hv2 : W2.heap[Bs]? = some (.cells #[v] 28 (0, 0)) := by rw [← hW2]; exact (World.putObj_heap_other hBl).trans hv
  have hK2 : W2.heap[D]? = some (.deferred (some [])) := by rw [← hW2]; exact (World.putObj_heap_other hDl).trans h1.defs
  have hx2 : KbC W2 b5 (.cells #[.int .i64 t, .int .i64 s, .int .i64 r, .int .i64 o, .string i, .string nm, .string ak, .string vl] 26) := (hg2.block b5 hK1.big (fun e => by cases e; omega)).trans hK1
  have hL2 : W2.heap[l]? = some (.loop { gqRec fn sv Bs D .ready none with state := .busy }) := by rw [← hW2]; exact World.putObj_heap_same hl
  have hrow2 : W2.ownsRow w0.heap.size 26 8 v gs.length (chcells gs) := hrow.kept hg2 (ownsRow_ne_a hrow h1.loop (fun cur e => by first | cases e | exact ty_ne (Obj.cells.inj e).2.1))
  have hb2 : Below w0.heap.size w0 W2 := h1.below.grown hg2 h1.below.size (fun k e => by cases e; exact h0l)
  obtain ⟨hc2, hf2⟩ := cell_of_box_a hv2
  have hBlt : Bs < W2.heap.size := (Array.getElem?_eq_some_iff.1 hv2).1
  have hl2 : l < W2.heap.size := (Array.getElem?_eq_some_iff.1 hL2).1
  have hDlt : D < W2.heap.size := (Array.getElem?_eq_some_iff.1 hK2).1
  have ne_of : ∀ {j : Nat} {o : Obj}, W2.heap[j]? = some o → (∀ cur, o ≠ .cells cur 26 (0, 0)) → some j ≠ v.ownBlock := fun hj hno => by
    rcases ownsRow_ne_a hrow2 hj hno with e | e
    · rw [e]; simp
    · exact fun e' => e e'.symm
  clear hW2
  have b0 : W2.cell? ⟨b5, 0, none⟩ = some (.int .i64 t) := Csn.KbC.cell hx2 rfl
  have b1 : W2.cell? ⟨b5, 1, none⟩ = some (.int .i64 s) := Csn.KbC.cell hx2 rfl
  have b2 : W2.cell? ⟨b5, 2, none⟩ = some (.int .i64 r) := Csn.KbC.cell hx2 rfl
  have b3 : W2.cell? ⟨b5, 3, none⟩ = some (.int .i64 o) := Csn.KbC.cell hx2 rfl
  have b4 : W2.cell? ⟨b5, 4, none⟩ = some (.string i) := Csn.KbC.cell hx2 rfl
  have b5c : W2.cell? ⟨b5, 5, none⟩ = some (.string nm) := Csn.KbC.cell hx2 rfl
  have b6 : W2.cell? ⟨b5, 6, none⟩ = some (.string ak) := Csn.KbC.cell hx2 rfl
  have b7 : W2.cell? ⟨b5, 7, none⟩ = some (.string vl) := Csn.KbC.cell hx2 rfl
  have hone := ch_one W2 ⟨(t, s, r), o, i, nm, ak, vl⟩
  rw [chB_is] at hone
  obtain ⟨_, _, _, hc9, _⟩ := hone
  obtain ⟨bq, oq, eq, hcs⟩ := hc9 (by decide)
  cases eq
  have hnews : ∀ j u, (gcells ⟨(t, s, r), o, i, nm, ak, vl⟩)[j]? = some u → (W2.alloc (.cells #[.int .i64 t, .int .i64 s, .int .i64 r, .int .i64 o, .string i, .string nm, .string ak, .string vl] 26)).cell? ((⟨W2.heap.size, 0, none⟩ : Addr).add j) = some u := by
    have h2 := chs_cells hcs
    have e2 : chcells [(⟨(t, s, r), o, i, nm, ak, vl⟩ : Chg)] = gcells ⟨(t, s, r), o, i, nm, ak, vl⟩ := by simp [chcells]
    rw [e2] at h2
    exact h2
  unfold gqBody
  refine ⟨W2, hbr, ?_⟩
  gi_wp2_with (first
    | (gi_at_builtin; refine wpListIn_append_own _ rfl _ _ 28 rfl w0.heap.size 26 i0 (.agg #[.int .i64 0, .int .i64 0, .int .i64 0, .int .i64 0, .string ⟨#[]⟩, .string ⟨#[]⟩, .string ⟨#[]⟩, .string ⟨#[]⟩]) 8 96 Tryz.underlying28 hi hz0 hz1 hz2 rfl (by decide) _ _ _ rfl (hrow2.alloc _) ⟨W2.heap.size, 0, none⟩ 1 1 (gcells ⟨(t, s, r), o, i, nm, ak, vl⟩) rfl (by rw [gcells_len]) hnews (by intro u hu; exact chcells_one [⟨(t, s, r), o, i, nm, ak, vl⟩] u (by simpa [chcells] using hu)) (by unfold maxLen; omega) (by omega) (by have := hb2.size; simp; omega) ?_; intro v' w3 hown' hg3 hnil3
       have hv3 : w3.heap[Bs]? = some (.cells #[v] 28 (0, 0)) := (hg3.block Bs (by simp; omega) (ne_of hv2 (fun cur e => by first | cases e | exact ty_ne (Obj.cells.inj e).2.1))).trans ((Below.heap_alloc _ _ Bs hBlt).trans hv2)
       obtain ⟨hc3, hf3⟩ := cell_of_box_a hv3
       obtain ⟨g', cap', cur', rfl, hbase', hgb', hr1, hr2, hr3, hr4⟩ : ∃ g' cap' cur', v' = .slice (some ⟨g', 0, none⟩) (gs.length + 1) cap' ∧ w0.heap.size ≤ g' ∧ w3.heap[g']? = some (.cells cur' 26 (0, 0)) ∧ gs.length + 1 ≤ cap' ∧ cap' ≤ maxLen ∧ cur'.size = cap' * 8 ∧ cur'.toList.take ((gs.length + 1) * 8) = chcells gs ++ gcells ⟨(t, s, r), o, i, nm, ak, vl⟩ := by
         rcases hown'.2 with ⟨_, h0⟩ | h'
         · exact absurd h0 (by omega)
         · exact h'
       go_frame)
    | gi_round_op_a)
  have hg3' : (W2.alloc (.cells #[.int .i64 t, .int .i64 s, .int .i64 r, .int .i64 o, .string i, .string nm, .string ak, .string vl] 26)).grownBy w3 v.ownBlock := hg3
  have hL3 : w3.heap[l]? = some (.loop { gqRec fn sv Bs D .ready none with state := .busy }) := (hg3'.block l (by simp; omega) (ne_of hL2 (fun cur e => by first | cases e | exact ty_ne (Obj.cells.inj e).2.1))).trans ((Below.heap_alloc _ _ l hl2).trans hL2)
  have hK3 : w3.heap[D]? = some (.deferred (some [])) := (hg3'.block D (by simp; omega) (ne_of hK2 (fun cur e => by first | cases e | exact ty_ne (Obj.cells.inj e).2.1))).trans ((Below.heap_alloc _ _ D hDlt).trans hK2)
  obtain ⟨w4, hw4⟩ : ∃ w4, w3.setCell ⟨Bs, 0, none⟩ (.slice (some ⟨g', 0, none⟩) (gs.length + 1) cap') = w4 := ⟨_, rfl⟩
  rw [hw4]
  have hg4 : w3.grownBy w4 (some Bs) := by rw [← hw4]; exact grownBy_setCell0_a _ _ _
  have hv4 : w4.heap[Bs]? = some (.cells #[.slice (some ⟨g', 0, none⟩) (gs.length + 1) cap'] 28 (0, 0)) := by rw [← hw4]; exact heap_setCell_box_a _ hv3
  have hL4 : w4.heap[l]? = some (.loop { gqRec fn sv Bs D .ready none with state := .busy }) := (hg4.block l (Array.getElem?_eq_some_iff.1 hL3).1 (fun e => hBl (by cases e; rfl))).trans hL3
  have hK4 : w4.heap[D]? = some (.deferred (some [])) := (hg4.block D (Array.getElem?_eq_some_iff.1 hK3).1 (fun e => hDB (by cases e; rfl))).trans hK3
  have hrow4 := hown'.kept hg4 (ownsRow_ne_a hown' hv3 (fun cur e => by first | cases e | exact ty_ne (Obj.cells.inj e).2.1))
  have hl4 : l < w4.heap.size := (Array.getElem?_eq_some_iff.1 hL4).1
  have hb3 : Below w0.heap.size w0 w3 := (hb2.alloc hb2.size _).grown hg3' (by have := hb2.size; simp; omega) (fun k e => (hrow2.lt k e).1)
  have hb4 : Below w0.heap.size w0 w4 := hb3.grown hg4 hb3.size (fun k e => by cases e; exact h0B)
  have hk4 : KeepsWalks W w4 := (((hk1.trans hk2).trans (KeepsWalks.alloc _ _)).trans (KeepsWalks.of_grownBy hg3' (ownsRow_not_walk_a (hrow2.alloc _)))).trans (by rw [← hw4]; exact KeepsWalks.setCell _ _ _)
  clear hw4
  refine ⟨_, _, run_endRound none hL4, rfl, ⟨⟨_, (World.putObj_heap_other hBl).trans hv4, ?_, by simp⟩, World.putObj_heap_same hl4, (World.putObj_heap_other hDl).trans hK4, hb4.grown (grownBy_putObj_a _ _ _) hb4.size (fun k e => by cases e; exact h0l)⟩, hk4.trans (KeepsWalks.putObj _ hL4 rfl)⟩
  have := hrow4.kept (grownBy_putObj_a w4 l (.loop { { gqRec fn sv Bs D .ready none with state := .busy } with state := if (none : Option Code).isNone then .ready else .done, pending := none })) (ownsRow_ne_a hrow4 hL4 (fun cur e => by first | cases e | exact ty_ne (Obj.cells.inj e).2.1))
  have e9 : chcells (gs ++ [(⟨(t, s, r), o, i, nm, ak, vl⟩ : Chg)]) = chcells gs ++ gcells ⟨(t, s, r), o, i, nm, ak, vl⟩ := by simp [chcells]
  rw [e9, List.length_append]
  simpa using this
set_option maxHeartbeats 4000000 in
/-- AppendSeq(nil, seq): a slice of the call's own with just what the iterator gave -/
theorem appendSeqG_in (n : Nat) (hn : 2 ≤ n) (g : Nat) (lb : Array Value) (eg : ∀ args w, (callFunc g args).run Tryz.prog w = .ok (.enter g args) w)
    (S : List Chg → Prop) (N : Nat) (hN : N ≤ 1000000) (w : World) (hseq : SeqGives Fence.wide (n - 1) Tryz.prog g lb chV S N w) :
    CallsIn Fence.wide n Tryz.prog 145 #[.slice none 0 0, .func (.func g) #[] lb] w fun e w' => ∃ (v : Value) (gs : List Chg), e = .returned v ∧ S gs ∧ w'.ownsRow w.heap.size 26 8 v gs.length (chcells gs) ∧ (v = .slice none 0 0 ↔ gs = []) ∧ Below w.heap.size w w' := by
  have h1 : 1 ≤ n := by omega
  refine callsIn_of_wp_marks Tryz.func145 rfl trivial ?_ rfl
  simp only [Tryz.ntmps145, List.size_toArray, List.length_cons, List.length_nil, Nat.reduceAdd, Nat.reduceSub, Array.replicate_succ, Array.replicate_zero, List.push_toArray, List.append_toArray, List.nil_append, List.cons_append]
  gi_wp2
  refine wpIn_rangeFunc ?_
  intro fn hfn
  obtain ⟨W0, hW0⟩ : ∃ W0, w.alloc (.cells #[.slice none 0 0] 28) = W0 := ⟨_, rfl⟩
  have hs0 : W0.heap.size = w.heap.size + 1 := by rw [← hW0]; simp
  have hv0 : W0.heap[w.heap.size]? = some (.cells #[.slice none 0 0] 28 (0, 0)) := by rw [← hW0]; exact World.alloc_heap_new w _
  have hb0 : Below w.heap.size w W0 := by rw [← hW0]; exact (Below.refl _ w).alloc (Nat.le_refl _) _
  rw [hW0]
  obtain ⟨W1, hW1⟩ : ∃ W1, (W0.alloc (.deferred (some []))).alloc (.loop (gqRec fn (.func (.func g) #[] lb) w.heap.size W0.heap.size .ready none)) = W1 := ⟨_, rfl⟩
  have hold : ∀ k, k < W0.heap.size → W1.heap[k]? = W0.heap[k]? := fun k hk => by
    rw [← hW1]; exact (Below.heap_alloc _ _ k (by simp; omega)).trans (Below.heap_alloc _ _ k hk)
  have hb1 : Below w.heap.size w W1 := by rw [← hW1]; exact (hb0.alloc hb0.size _).alloc (by have := hb0.size; simp; omega) _
  have hs1 : W1.heap.size = W0.heap.size + 2 := by rw [← hW1]; simp
  have hM : GqAt w fn (.func (.func g) #[] lb) w.heap.size (W0.heap.size + 1) W0.heap.size [] W1 :=
    ⟨⟨_, (hold w.heap.size (by omega)).trans hv0, ⟨rfl, .inl ⟨rfl, rfl⟩⟩, by simp⟩,
     by rw [← hW1]; have := World.alloc_heap_new (W0.alloc (.deferred (some []))) (.loop (gqRec fn (.func (.func g) #[] lb) w.heap.size W0.heap.size .ready none)); rwa [World.size_alloc] at this,
     by rw [← hW1]; exact (Below.heap_alloc _ _ _ (by simp)).trans (World.alloc_heap_new W0 _), hb1⟩
  refine ⟨W0.heap.size + 1, [{ target := .collected W0.heap.size, args := #[] }], W1, { target := .fn (.func g) lb, args := #[.func (.yield (W0.heap.size + 1)) #[] #[]] }, W1, g,
    #[.func (.yield (W0.heap.size + 1)) #[] #[]] ++ lb, W1, ?_, ?_, ?_, ?_, fun _ => h1, ?_⟩
  · rw [← hW1]; exact run_enterLoop_outer _ _ _ _ _
  · simp [resolve, go_sem]
  · intro f' hf'; trivial
  · simp [invoke, go_sem, eg]
  · refine (hseq (W0.heap.size + 1) (GqAt w fn (.func (.func g) #[] lb) w.heap.size (W0.heap.size + 1) W0.heap.size) W1 hb1 (gq_abides _ _ _ _ _ _ _ hb1.size)
      (fun pre x W hJ hl => gq_yield (n - 1 - 1) w fn _ w.heap.size (W0.heap.size + 1) W0.heap.size (by omega) (by omega) (by omega) (Nat.le_refl _) (by omega) N hN pre x W hJ hl) hM).mono ?_
    rintro e W2 ⟨⟨v0, rfl⟩, gs, hS, h2⟩
    obtain ⟨v, hv, hrow, hnil⟩ := h2.box
    have hend := run_endLoop (P := Tryz.prog) h2.loop (by simp [gqRec])
    obtain ⟨W3, hW3⟩ : ∃ W3, W2.putObj (W0.heap.size + 1) (.loop { gqRec fn (.func (.func g) #[] lb) w.heap.size W0.heap.size .ready none with state := .exhausted }) = W3 := ⟨_, rfl⟩
    rw [hW3] at hend
    have hg3 : W2.grownBy W3 (some (W0.heap.size + 1)) := by rw [← hW3]; exact grownBy_putObj_a _ _ _
    have hv3 : W3.heap[w.heap.size]? = some (.cells #[v] 28 (0, 0)) := by rw [← hW3]; exact (World.putObj_heap_other (by omega)).trans hv
    have hK3 : W3.heap[W0.heap.size]? = some (.deferred (some [])) := by rw [← hW3]; exact (World.putObj_heap_other (by omega)).trans h2.defs
    have hrow3 := hrow.kept hg3 (ownsRow_ne_a hrow h2.loop (fun cur e => by first | cases e | exact ty_ne (Obj.cells.inj e).2.1))
    have hb3 : Below w.heap.size w W3 := h2.below.grown hg3 h2.below.size (fun k e => by cases e; omega)
    obtain ⟨hc3, hf3⟩ := cell_of_box_a hv3
    clear hW3
    refine ⟨none, W3, hend, ?_⟩
    gi_wp2
    rw [← hs0]
    refine ⟨by simp, .inl ⟨_, _, rfl, run_takeDeferred hK3, ?_⟩⟩
    exact ⟨_, results_tmp rfl _ _ _, v, gs, rfl, hS, hrow3.kept (grownBy_putObj_a _ _ _) (ownsRow_ne_a hrow3 hK3 (fun cur e => by first | cases e | exact ty_ne (Obj.cells.inj e).2.1)), hnil, hb3.grown (grownBy_putObj_a _ _ _) hb3.size (fun k e => by cases e; omega)⟩
end Go.Proofs.YtbkignlbcneddaaGreatDoor
end

section
/-
  Contracts of change.Since and of the reference's. Condition: at most 1000000 records.
-/
set_option maxRecDepth 100000
namespace Go.Proofs.YtbkignlbcneddaaGreatDoor
open Go.RowKit Go.PlainAid
open Csn (Cn cnV cnB KbC kbc_new box_below box_lt parEC parVC vldC fmtS TzOk CnsAt covC)
theorem since_more {l : List Chg} {i : Nat} (h : i < l.length) (v : List Cn) : sinceG (l.take (i + 1)) v = sinceG (l.take i) v ++ if covC v (gA l i).c then [] else [gA l i] := by
  rw [take_g l i h]
  unfold sinceG
  rw [List.filter_append]
  cases e : covC v (gA l i).c <;> simp [e]
theorem since_len (l : List Chg) (v : List Cn) : (sinceG l v).length ≤ l.length := List.length_filter_le _ _
/-- what the loop keeps: the records so far, how far the world has gone -/
structure SiI (w : World) (out : List Chg) (v : Value) (W : World) : Prop where
  low : Below w.heap.size w W
  own : W.ownsRow w.heap.size 26 8 v out.length (chcells out)
theorem SiI.step {w W X : World} {out : List Chg} {v : Value} (h : SiI w out v W) (hb : Below W.heap.size W X) : SiI w out v X := ⟨h.low.trans (hb.mono h.low.size), own_below h.own hb⟩
theorem SiI.box {w W : World} {out : List Chg} {v : Value} (h : SiI w out v W) (o : Obj) : SiI w out v (W.alloc o) ∧ KbC (W.alloc o) W.heap.size o := ⟨h.step (box_below W o), kbc_new W o⟩
theorem coversk (ao : Option Addr) (n cap : Nat) (l : List Cn) (t s r : Int) (b : Bool) (w : World) (h : CnsAt w ao n cap l) (hb : covC l (t, s, r) = b) :
    Calls Tryz.prog 71 #[.slice ao n cap, .agg #[.int .i64 t, .int .i64 s, .int .i64 r]] w fun e w' => e = .returned (.bool b) ∧ Below w.heap.size w w' := by subst hb; exact Csn.covers_s ao n cap l (t, s, r) w h
set_option maxHeartbeats 16000000 in
theorem since_s (ao : Option Addr) (n cap : Nat) (l : List Chg) (vo : Option Addr) (vn vc : Nat) (cs : List Cn) (w : World) (h : ChsAt w ao n cap l) (hv : CnsAt w vo vn vc cs) (hn : n ≤ 1000000) :
    Calls Tryz.prog 26 #[.slice ao n cap, .slice vo vn vc] w fun e w' => ∃ v, e = .returned v ∧ w'.ownsRow w.heap.size 26 8 v (sinceG l cs).length (chcells (sinceG l cs)) ∧ Below w.heap.size w w' := by
  have HL := Lib.hid h
  have HVs := Lib.hid hv
  have HN := Lib.hid h.1
  have HS := Lib.hid hn
  have HI := Lib.hid (show SiI w (sinceG (l.take 0) cs) (.slice none 0 0) w from ⟨Below.refl _ _, World.ownsRow_nil _ _ _ _⟩)
  clear h hv hn
  go_enter Tryz.func26, Tryz.ntmps26
  go_wp2_with fail
  go_loopw [5, 7, 10] (fun lv _ iv wr => ∃ i : Nat, i ≤ n ∧ iv = .int .i64 i ∧ Hid (SiI w (sinceG (l.take i) cs) lv wr)) (fun _ _ iv _ => n - (intOf iv).toNat)
  case atStart => exact ⟨0, Nat.zero_le _, rfl, HI⟩
  case round =>
    clear HI
    obtain ⟨i, hi, rfl, HI⟩ := hrel
    have hn6 : n ≤ 1000000 := HS.out
    by_cases hlt : i < n
    · have e1 : (i : Int) < (n : Int) := by omega
      obtain ⟨b, off, hao, hcs⟩ := HL.out.2.2.2.1 (by omega)
      subst hao
      have HC := Lib.hid (show ∀ V, Below w.heap.size w V → At8 V b (off + i * 8) (gA l i) from fun V hV => by
        obtain ⟨b', o', e', hc⟩ := (HL.out.below hV).2.2.2.1 (by omega)
        cases e'
        exact hc.at8 (by rw [HN.out]; exact hlt))
      have HM := Lib.hid (since_more (l := l) (i := i) (by rw [HN.out]; exact hlt) cs)
      have HQ := Lib.hid (show (sinceG (l.take i) cs).length + 1 ≤ 1000000000 from by have h1 := since_len (l.take i) cs; have h2 : (l.take i).length ≤ i := List.length_take_le _ _; omega)
      obtain ⟨g, hg⟩ : ∃ x, gA l i = x := ⟨_, rfl⟩
      rw [hg] at HC HM
      clear hg hcs
      obtain ⟨⟨t, s, r⟩, o, id, nm, a, vl⟩ := g
      obtain ⟨z, hz⟩ : ∃ x, covC cs (t, s, r) = x := ⟨_, rfl⟩
      have HCv := Lib.hid (fun V (hV : CnsAt V vo vn vc cs) => coversk vo vn vc cs t s r z V hV hz)
      dsimp only at HM
      rw [hz] at HM
      clear hz
      obtain ⟨c0, c1, c2, c3, c4, c5, c6, c7⟩ := HC.out _ HI.out.low
      dsimp only at c0 c1 c2 c3 c4 c5 c6 c7
      skip
      obtain ⟨hx1, hx2⟩ := HI.out.box (.cells #[.int .i64 t, .int .i64 s, .int .i64 r, .int .i64 o, .string id, .string nm, .string a, .string vl] 26)
      have HI := Lib.hid hx1
      have HK1 := Lib.hid hx2
      clear hx1 hx2
      have b0 := Csn.KbC.cell (i := 0) HK1.out rfl
      have b1 := Csn.KbC.cell (i := 1) HK1.out rfl
      have b2 := Csn.KbC.cell (i := 2) HK1.out rfl
      have b3 := Csn.KbC.cell (i := 3) HK1.out rfl
      have b4 := Csn.KbC.cell (i := 4) HK1.out rfl
      have b5 := Csn.KbC.cell (i := 5) HK1.out rfl
      have b6 := Csn.KbC.cell (i := 6) HK1.out rfl
      have b7 := Csn.KbC.cell (i := 7) HK1.out rfl
      go_wp2_with fail
      refine (HCv.out _ (HVs.out.below HI.out.low)).mono ?_
      rintro e w2 ⟨rfl, hb⟩
      have HI := Lib.hid (HI.out.step hb)
      have HK2 := Lib.hid (Csn.KbC.step HK1.out hb)
      clear hb c0 c1 c2 c3 c4 c5 c6 c7 b0 b1 b2 b3 b4 b5 b6 b7
      cases z
      · have HM := Lib.hid (show sinceG (l.take (i + 1)) cs = sinceG (l.take i) cs ++ [⟨(t, s, r), o, id, nm, a, vl⟩] from HM.out)
        have c0 := Csn.KbC.cell (i := 0) HK2.out rfl
        have c1 := Csn.KbC.cell (i := 1) HK2.out rfl
        have c2 := Csn.KbC.cell (i := 2) HK2.out rfl
        have c3 := Csn.KbC.cell (i := 3) HK2.out rfl
        have c4 := Csn.KbC.cell (i := 4) HK2.out rfl
        have c5 := Csn.KbC.cell (i := 5) HK2.out rfl
        have c6 := Csn.KbC.cell (i := 6) HK2.out rfl
        have c7 := Csn.KbC.cell (i := 7) HK2.out rfl
        have HOn := Lib.hid (ch_one w2 ⟨(t, s, r), o, id, nm, a, vl⟩)
        rw [chB_is] at HOn
        have hbx := box_below w2 (.cells #[.int .i64 t, .int .i64 s, .int .i64 r, .int .i64 o, .string id, .string nm, .string a, .string vl] 26)
        have HO2 := Lib.hid (own_below HI.out.own hbx)
        have HLo := Lib.hid (show Below w.heap.size w (w2.alloc (.cells #[.int .i64 t, .int .i64 s, .int .i64 r, .int .i64 o, .string id, .string nm, .string a, .string vl] 26)) from HI.out.low.trans (hbx.mono HI.out.low.size))
        clear hbx
        go_wp2_with (at_builtin; refine app_chs (w2.alloc _) HO2.out (.tmp 19) (.tmp 21) (some ⟨w2.heap.size, 0, none⟩) 1 1 [⟨(t, s, r), o, id, nm, a, vl⟩] ?_ ?_ ?_ ?_ ?_ ?_ ?_ ?_; exact rfl; exact rfl; exact rfl; exact rfl; exact HOn.out; exact HQ.out; exact HLo.out.size; intro v3 W3 hown3 hb3)
        rw [← chcells_app] at hown3
        go_roundw
        case rel => exact ⟨i + 1, by omega, by go_num, Lib.hid ⟨HLo.out.trans hb3, by rw [HM.out]; simpa using hown3⟩⟩
        case measure => simp [intOf]; omega
      · have HM2 : Hid (sinceG (l.take (i + 1)) cs = sinceG (l.take i) cs) := Lib.hid (by rw [HM.out]; simp)
        clear HM
        go_wp2_with fail
        go_roundw
        case rel => exact ⟨i + 1, by omega, by go_num, Lib.hid (by rw [HM2.out]; exact HI.out)⟩
        case measure => simp [intOf]; omega
    · have e1 : ¬ (i : Int) < (n : Int) := by omega
      obtain rfl : i = n := by omega
      have HE := Lib.hid (show l.take i = l from List.take_of_length_le (by rw [HN.out]; exact Nat.le_refl _))
      rw [HE.out] at HI
      go_wp2_with fail
      go_ret
      exact ⟨_, rfl, HI.out.own, HI.out.low⟩
end Go.Proofs.YtbkignlbcneddaaGreatDoor
end
