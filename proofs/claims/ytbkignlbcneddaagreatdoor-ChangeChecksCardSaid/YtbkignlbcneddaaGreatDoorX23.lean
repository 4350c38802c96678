/-
  Texts of the schema layer and of those beneath it, joined: ChgMg. Conditions stand at each contract.
-/
import Derived.Test.YtbkignlbcneddaaGreatDoorX14
import Derived.Test.YtbkignlbcneddaaGreatDoorX18
import Derived.Test.YtbkignlbcneddaaGreatDoorX22
set_option linter.unusedVariables false
set_option linter.unusedSimpArgs false
set_option linter.unnecessarySimpa false

section
/-
  Contract of change.Merge, under that of its last row (maps.Values and SortedFunc: ValSorts). Condition: small records whose numbers' parts are ints, at most 10000 in each list.
-/
set_option maxRecDepth 100000
namespace Go.Proofs.YtbkignlbcneddaaGreatDoor
open Go.RowKit Go.PlainAid Go.Maps
open Csn (Cn cnV cnB KbC kbc_new box_below)
def bestV (l : List Chg) (c : Cn) : Option Value := (bestG l c).map chV
theorem best_other {l : List Chg} {g : Chg} {c : Cn} (h : c ≠ g.c) : bestG (l ++ [g]) c = bestG l c := by
  rw [best_snoc]; unfold pickG
  rw [if_neg (fun e => h e.2.symm)]
theorem bestV_put {l : List Chg} {g : Chg} (h : bestG (l ++ [g]) g.c = some g) : setF (bestV l) g.c (chV g) = bestV (l ++ [g]) := by
  funext c
  unfold setF bestV
  by_cases e : c = g.c
  · rw [if_pos e, e, h]; rfl
  · rw [if_neg e, best_other e]
theorem bestV_keep {l : List Chg} {g : Chg} (h : bestG (l ++ [g]) g.c = bestG l g.c) : bestV (l ++ [g]) = bestV l := by
  funext c
  unfold bestV
  by_cases e : c = g.c
  · rw [e, h]
  · rw [best_other e]
theorem best_new {l : List Chg} {g : Chg} (hc : chkG g = 0) (h : bestG l g.c = none) : bestG (l ++ [g]) g.c = some g := by
  rw [best_snoc, h]; unfold pickG; rw [if_pos ⟨hc, rfl⟩]
theorem best_less {l : List Chg} {g d : Chg} (hc : chkG g = 0) (h : bestG l g.c = some d) (hl : cmpS (lineG g) (lineG d) < 0) : bestG (l ++ [g]) g.c = some g := by
  rw [best_snoc, h]; unfold pickG; rw [if_pos ⟨hc, rfl⟩]; exact if_pos hl
theorem best_more {l : List Chg} {g d : Chg} (hc : chkG g = 0) (h : bestG l g.c = some d) (hl : ¬ cmpS (lineG g) (lineG d) < 0) : bestG (l ++ [g]) g.c = bestG l g.c := by
  rw [best_snoc, h]; unfold pickG; rw [if_pos ⟨hc, rfl⟩]; exact if_neg hl
theorem best_bad {l : List Chg} {g : Chg} (hc : chkG g ≠ 0) : bestG (l ++ [g]) g.c = bestG l g.c := by
  rw [best_snoc]; unfold pickG; rw [if_neg (fun e => hc e.1)]
theorem best_eq {l : List Chg} {g : Chg} (h : bestG l g.c = some g) : bestG (l ++ [g]) g.c = bestG l g.c :=
  best_more (best_mem h).2.1 h (by have := (best_mem h).2.2.2 g (best_mem h).1 (best_mem h).2.1 rfl; exact this)
theorem zero_chg (w : World) : (zeroValue 26).run Tryz.prog w = .ok (chV zeroG) w := by rfl
theorem ChsAt.keptm {w w' : World} {mb cnt : Nat} {f : Cn → Option Value} {ao : Option Addr} {n cap : Nat} {ps : List Chg} (h : ChsAt w ao n cap ps) (hm : KMap cnK w mb cnt f) (hg : w.grownBy w' (some mb)) : ChsAt w' ao n cap ps := by
  refine ⟨h.1, h.2.1, h.2.2.1, fun hn => ?_, h.2.2.2.2⟩
  obtain ⟨b, off, e, hi⟩ := h.2.2.2.1 hn
  have hne : b ≠ mb := by
    intro e2
    subst e2
    obtain ⟨D, ⟨es, clock, he, _⟩, _⟩ := hm
    have h0 := hi.2 0 (by rw [h.1]; exact hn) 0 (by omega)
    have h1 : w.cell? ⟨b, off + 0 * 8 + 0, none⟩ = none := by unfold World.cell?; rw [he]
    rw [h1] at h0
    simp [gcells] at h0
  exact ⟨b, off, e, Nat.lt_of_lt_of_le hi.1 hg.size, fun j hj k hk => (World.cell?_of_block (w := w) (hg.block b hi.1 (fun e3 => hne (Option.some.inj e3)))).trans (hi.2 j hj k hk)⟩
/-- what the loop keeps -/
structure PmI (w : World) (mb : Nat) (L : List Chg) (k : Nat) (W : World) : Prop where
  low : Below w.heap.size w W
  map : KMap cnK W mb k (bestV L)
  big : w.heap.size ≤ mb
  ok : COk W
theorem PmI.step {w W X : World} {mb : Nat} {L : List Chg} {k : Nat} (h : PmI w mb L k W) (hb : Below W.heap.size W X) : PmI w mb L k X :=
  ⟨h.low.trans (hb.mono h.low.size), h.map.below hb h.map.lt, h.big, h.ok.step hb⟩
theorem PmI.keep {w W : World} {mb : Nat} {L : List Chg} {k : Nat} {g : Chg} (h : PmI w mb L k W) (hg : bestG (L ++ [g]) g.c = bestG L g.c) : PmI w mb (L ++ [g]) (k + 1) W :=
  ⟨h.low, by rw [bestV_keep hg]; exact h.map.mono (Nat.le_succ _), h.big, h.ok⟩
theorem PmI.put {w W : World} {mb : Nat} {L : List Chg} {k : Nat} {g : Chg} (h : PmI w mb L k W) (hw : COk w) (hk : k < 1000000) (hd : cnDom g.c) (hg : bestG (L ++ [g]) g.c = some g) :
    ∃ w', (Instr.mapUpdate 90 (.map (some mb)) (cnV g.c) (chV g)).run Tryz.prog W = .ok () w' ∧ PmI w mb (L ++ [g]) (k + 1) w' ∧ W.grownBy w' (some mb) := by
  obtain ⟨w', hr, hm, hgr⟩ := h.map.store (t := 90) (e := 26) Tryz.underlying90 (by unfold maxLen; omega) g.c hd (chV g)
  have hl := h.low.grown hgr h.low.size (fun j hj => by cases hj; exact h.big)
  refine ⟨w', hr, ⟨hl, ?_, h.big, hw.step hl⟩, hgr⟩
  rw [← bestV_put hg]
  exact hm
/-- with the boxes of the record and of the one held -/
structure PxI (w : World) (mb : Nat) (L : List Chg) (k : Nat) (b7 : Nat) (g : Chg) (b8 : Nat) (d : Chg) (W : World) : Prop where
  inv : PmI w mb L k W
  x7 : KbC W b7 (chB g)
  x8 : KbC W b8 (chB d)
theorem PxI.step {w W X : World} {mb : Nat} {L : List Chg} {k b7 b8 : Nat} {g d : Chg} (h : PxI w mb L k b7 g b8 d W) (hb : Below W.heap.size W X) : PxI w mb L k b7 g b8 d X :=
  ⟨h.inv.step hb, Csn.KbC.step h.x7 hb, Csn.KbC.step h.x8 hb⟩
/-- the contract of the last row -/
def ValSorts : Prop := ∀ (V : World) (mb n : Nat) (L : List Chg), n ≤ 20000 → KMap cnK V mb n (bestV L) → (∀ d ∈ L, SmG d ∧ cnDom d.c) → Calls Tryz.prog 67 #[.map (some mb)] V fun e V1 => ∃ c, e = .returned c ∧ Below V.heap.size V V1 ∧
  Calls Tryz.prog 66 #[c, .func (.func 68) #[] #[]] V1 fun e V2 => ∃ xo k xc m, e = .returned (.slice xo k xc) ∧ ChsAt V2 xo k xc m ∧ AscG m ∧ (∀ g, g ∈ m ↔ bestG L g.c = some g) ∧ Below V.heap.size V V2
theorem g_more {l : List Chg} {i : Nat} (h : i < l.length) : l.take (i + 1) = l.take i ++ [gA l i] := by
  unfold gA
  rw [List.take_succ_eq_append_getElem h, List.getD_eq_getElem?_getD, List.getElem?_eq_getElem h]; rfl
set_option maxHeartbeats 8000000 in
theorem merge_s (hT : ValSorts) (ao bo : Option Addr) (n m cap dap : Nat) (a b : List Chg) (w : World) (h : ChsAt w ao n cap a) (k : ChsAt w bo m dap b) (hz : ∀ d ∈ a ++ b, SmG d ∧ cnDom d.c) (hn : n ≤ 10000) (hm : m ≤ 10000) (ho : COk w) :
    Calls Tryz.prog 24 #[.slice ao n cap, .slice bo m dap] w fun e w' => ∃ xo k xc, e = .returned (.slice xo k xc) ∧ ChsAt w' xo k xc (mergeG a b) ∧ Below w.heap.size w w' := by
  have HLa := Lib.hid h
  have HLb := Lib.hid k
  have HZ := Lib.hid hz
  have HT := Lib.hid hT
  have HO := Lib.hid ho
  have HSa := Lib.hid hn
  have HSb := Lib.hid hm
  have HN := Lib.hid (show (a ++ b).length ≤ 20000 from by rw [List.length_append]; have h1 := h.1; have h2 := k.1; omega)
  have hB1 := box_below w (.map #[] 0)
  have HI1 := Lib.hid (show PmI w w.heap.size [] 0 (w.alloc (.map #[] 0)) from ⟨hB1, kmap_made w, Nat.le_refl _, ho.step hB1⟩)
  have HKt := Lib.hid (kbc_new (w.alloc (.map #[] 0)) (twG ao n cap bo m dap))
  have HI := Lib.hid (HI1.out.step (box_below (w.alloc (.map #[] 0)) (twG ao n cap bo m dap)))
  unfold twG at HI HKt
  rw [World.size_alloc] at HKt
  clear h k hz hT ho hn hm hB1 HI1
  have hmm := @run_makeMap Tryz.prog
  go_enter Tryz.func24, Tryz.ntmps24
  go_wp2_with fail
  clear hmm
  refine (concatg_s _ ao bo n m cap dap a b _ HKt.out (HLa.out.below HI.out.low) (HLb.out.below HI.out.low) (by have := HSa.out; omega) (by have := HSb.out; omega)).mono ?_
  rintro e w1 ⟨xo, xn, xc, rfl, hx, hb⟩
  have HI := Lib.hid (HI.out.step hb)
  have HX := Lib.hid hx
  have HXn := Lib.hid hx.1
  obtain ⟨mb, hmb⟩ : ∃ x, w.heap.size = x := ⟨_, rfl⟩
  have HMb := Lib.hid hmb
  obtain ⟨l, hl⟩ : ∃ x, a ++ b = x := ⟨_, rfl⟩
  have HL := Lib.hid hl
  rw [hl] at HZ HN HX HXn
  rw [hmb] at HI
  have HI := Lib.hid (show PmI w mb (l.take 0) 0 w1 ∧ ChsAt w1 xo xn xc l from ⟨by rw [List.take_zero]; exact (show PmI w mb [] 0 w1 from by subst hmb; exact HI.out), HX.out⟩)
  clear hx hb hl HKt
  rw [hmb]
  clear hmb
  go_wp2_with fail
  go_loopw [7, 8, 9, 16] (fun _ _ _ iv wr => ∃ i : Nat, i ≤ xn ∧ iv = .int .i64 i ∧ Hid (PmI w mb (l.take i) i wr ∧ ChsAt wr xo xn xc l)) (fun _ _ _ iv _ => xn - (intOf iv).toNat)
  case atStart => exact ⟨0, Nat.zero_le _, rfl, HI⟩
  case round =>
    clear HI
    obtain ⟨i, hi, rfl, HI⟩ := hrel
    have hx2 : xn ≤ 20000 := by rw [← HXn.out]; exact HN.out
    by_cases hlt : i < xn
    · have e1 : (i : Int) < (xn : Int) := by omega
      obtain ⟨bb, off, hao, hcs⟩ := HX.out.2.2.2.1 (by omega)
      subst hao
      have HC := Lib.hid (show At8 wr bb (off + i * 8) (gA l i) from by
        obtain ⟨b', o', e', hc⟩ := HI.out.2.2.2.2.1 (by omega)
        cases e'
        exact hc.at8 (by rw [HXn.out]; exact hlt))
      have HM := Lib.hid (g_more (l := l) (i := i) (by rw [HXn.out]; exact hlt))
      have HSm := Lib.hid (HZ.out _ (g_mem (l := l) (j := i) (by rw [HXn.out]; exact hlt)))
      have HKm := Lib.hid (show ∀ d ∈ l.take i, SmG d from fun d hd => (HZ.out _ (List.mem_of_mem_take hd)).1)
      obtain ⟨g, hg⟩ : ∃ x, gA l i = x := ⟨_, rfl⟩
      rw [hg] at HC HM HSm
      clear hg hcs
      obtain ⟨L, hL⟩ : ∃ x, l.take i = x := ⟨_, rfl⟩
      rw [hL] at HM HI HKm
      clear hL
      obtain ⟨c, hc⟩ : ∃ x, chkG g = x := ⟨_, rfl⟩
      have HCg := Lib.hid hc
      have HCk := Lib.hid (fun W (h : COk W) => chkg_s g W HSm.out.1 h.mx)
      rw [hc] at HCk
      clear hc
      have HLk := Lib.hid (fun W (h : COk W) => linek g (lnV g) c W HSm.out.1 h rfl HCg.out)
      obtain ⟨⟨t, s, r⟩, o, id, nm, ak, vl⟩ := g
      obtain ⟨c0, c1, c2, c3, c4, c5, c6, c7⟩ := HC.out
      dsimp only at c0 c1 c2 c3 c4 c5 c6 c7
      rw [chV_is] at HCk
      have hbx := box_below wr (.cells #[.int .i64 t, .int .i64 s, .int .i64 r, .int .i64 o, .string id, .string nm, .string ak, .string vl] 26)
      have HK1 := Lib.hid (kbc_new wr (.cells #[.int .i64 t, .int .i64 s, .int .i64 r, .int .i64 o, .string id, .string nm, .string ak, .string vl] 26))
      have HI := Lib.hid (And.intro (HI.out.1.step hbx) (HI.out.2.below hbx))
      clear hbx
      have b0 := Csn.KbC.cell (i := 0) HK1.out rfl
      have b1 := Csn.KbC.cell (i := 1) HK1.out rfl
      have b2 := Csn.KbC.cell (i := 2) HK1.out rfl
      have b3 := Csn.KbC.cell (i := 3) HK1.out rfl
      have b4 := Csn.KbC.cell (i := 4) HK1.out rfl
      have b5 := Csn.KbC.cell (i := 5) HK1.out rfl
      have b6 := Csn.KbC.cell (i := 6) HK1.out rfl
      have b7 := Csn.KbC.cell (i := 7) HK1.out rfl
      go_wp2_with fail
      refine (HCk.out _ HI.out.1.ok).mono ?_
      rintro e w2 ⟨rfl, hb⟩
      have HI := Lib.hid (And.intro (HI.out.1.step hb) (HI.out.2.below hb))
      have HK2 := Lib.hid (Csn.KbC.step HK1.out hb)
      clear hb c0 c1 c2 c3 c4 c5 c6 c7 b0 b1 b2 b3 b4 b5 b6 b7 HK1
      obtain ⟨b7, hb7⟩ : ∃ x, wr.heap.size = x := ⟨_, rfl⟩
      rw [hb7] at HK2 ⊢
      clear hb7
      by_cases h0 : c = 0
      · subst h0
        have HBb := Lib.hid (show bestV L (t, s, r) = (bestG L (t, s, r)).map chV from rfl)
        have hlook := HI.out.1.map.look_ok (t := 90) (e := 26) (z := chV zeroG) Tryz.underlying90 (zero_chg w2) (t, s, r) HSm.out.2
        rw [HBb.out] at hlook
        have b0 := Csn.KbC.cell (i := 0) HK2.out rfl
        have b1 := Csn.KbC.cell (i := 1) HK2.out rfl
        have b2 := Csn.KbC.cell (i := 2) HK2.out rfl
        cases hbest : bestG L (t, s, r) with
        | none =>
          have HNw := Lib.hid (best_new (g := ⟨(t, s, r), o, id, nm, ak, vl⟩) HCg.out hbest)
          have HLook := Lib.hid (show (Instr.lookup 90 (.map (some mb)) (.agg #[.int .i64 t, .int .i64 s, .int .i64 r]) true).run Tryz.prog w2 = .ok (.tuple #[.agg #[.int .i64 0, .int .i64 0, .int .i64 0, .int .i64 0, .string ⟨#[]⟩, .string ⟨#[]⟩, .string ⟨#[]⟩, .string ⟨#[]⟩], .bool false]) w2 from by rw [hbest] at hlook; exact hlook)
          clear hlook
          have hlook := HLook.out
          have hbx := box_below w2 (.cells #[.int .i64 0, .int .i64 0, .int .i64 0, .int .i64 0, .string ⟨#[]⟩, .string ⟨#[]⟩, .string ⟨#[]⟩, .string ⟨#[]⟩] 26)
          have HP0 := Lib.hid (show PxI w mb L i b7 ⟨(t, s, r), o, id, nm, ak, vl⟩ w2.heap.size zeroG (w2.alloc (.cells #[.int .i64 0, .int .i64 0, .int .i64 0, .int .i64 0, .string ⟨#[]⟩, .string ⟨#[]⟩, .string ⟨#[]⟩, .string ⟨#[]⟩] 26)) from ⟨HI.out.1.step hbx, Csn.KbC.step HK2.out hbx, kbc_new w2 _⟩)
          have HBw := Lib.hid (HI.out.2.below hbx)
          clear hbx
          go_wp2_with fail
          clear hlook b0 b1 b2
          obtain ⟨b8, hb8⟩ : ∃ x, w2.heap.size = x := ⟨_, rfl⟩
          rw [hb8] at HP0 ⊢
          clear hb8
          generalize w2.alloc (.cells #[.int .i64 0, .int .i64 0, .int .i64 0, .int .i64 0, .string ⟨#[]⟩, .string ⟨#[]⟩, .string ⟨#[]⟩, .string ⟨#[]⟩] 26) = w3 at HP0 HBw ⊢
          have S0 : Hid (PxI w mb L i b7 ⟨(t, s, r), o, id, nm, ak, vl⟩ b8 zeroG w3.drew) := Lib.hid (HP0.out.step (Below.refl _ _).drew)
          have HBw := Lib.hid (HBw.out.below (Below.refl _ _).drew)
          refine wp_region_held_drew (S := fun V => Hid (PxI w mb L i b7 ⟨(t, s, r), o, id, nm, ak, vl⟩ b8 zeroG V)) (by kernel_rfl) (S0) (fun hS => ?_)
          refine wpAnyH_take (i := 0) (oi := { dst := some 30, op := _, type := _, pos := _, after := _, guard := _ }) (v := ?_) rfl (by kernel_rfl) (by kernel_rfl) (by kernel_rfl) (fun _ _ _ h => h) (Or.inl ⟨by rfl, ?_⟩) (by assumption) ?_
          rotate_left
          · intro w hSw
            try dsimp only at hSw
            go_simp
            try with_reducible rfl
          try simp only [Act.put, List.setIfInBounds_toArray, List.set_cons_zero, List.set_cons_succ]
          refine wpAnyH_take (i := 1) (oi := { dst := some 31, op := _, type := _, pos := _, after := _, guard := _ }) (v := ?_) rfl (by kernel_rfl) (by kernel_rfl) (by kernel_rfl) (fun _ _ _ h => h) (Or.inl ⟨by rfl, ?_⟩) (by assumption) ?_
          rotate_left
          · intro w hSw
            try dsimp only at hSw
            go_simp
            try with_reducible rfl
          try simp only [Act.put, List.setIfInBounds_toArray, List.set_cons_zero, List.set_cons_succ]
          refine wpAnyH_take (i := 2) (oi := { dst := some 32, op := _, type := _, pos := _, after := _, guard := _ }) (v := ?_) rfl (by kernel_rfl) (by kernel_rfl) (by kernel_rfl) (fun _ _ _ h => h) (Or.inl ⟨by rfl, ?_⟩) (by assumption) ?_
          rotate_left
          · intro w hSw
            try dsimp only at hSw
            go_simp
            try with_reducible rfl
          try simp only [Act.put, List.setIfInBounds_toArray, List.set_cons_zero, List.set_cons_succ]
          refine wpAnyH_take (i := 3) (oi := { dst := some 33, op := _, type := _, pos := _, after := _, guard := _ }) (v := undef) rfl (by kernel_rfl) (by kernel_rfl) (by kernel_rfl) (fun _ _ _ h => h) (Or.inr ⟨by rfl, rfl⟩) (by assumption) ?_
          try simp only [Act.put, List.setIfInBounds_toArray, List.set_cons_zero, List.set_cons_succ]
          refine wpAnyH_take (i := 4) (oi := { dst := some 34, op := _, type := _, pos := _, after := _, guard := _ }) (v := undef) rfl (by kernel_rfl) (by kernel_rfl) (by kernel_rfl) (fun _ _ _ h => h) (Or.inr ⟨by rfl, rfl⟩) (by assumption) ?_
          try simp only [Act.put, List.setIfInBounds_toArray, List.set_cons_zero, List.set_cons_succ]
          refine wpAnyH_take (i := 5) (oi := { dst := some 35, op := _, type := _, pos := _, after := _, guard := _ }) (v := undef) rfl (by kernel_rfl) (by kernel_rfl) (by kernel_rfl) (fun _ _ _ h => h) (Or.inr ⟨by rfl, rfl⟩) (by assumption) ?_
          try simp only [Act.put, List.setIfInBounds_toArray, List.set_cons_zero, List.set_cons_succ]
          refine wpAnyH_take (i := 6) (oi := { dst := some 36, op := _, type := _, pos := _, after := _, guard := _ }) (v := undef) rfl (by kernel_rfl) (by kernel_rfl) (by kernel_rfl) (fun _ _ _ h => h) (Or.inr ⟨by rfl, rfl⟩) (by assumption) ?_
          try simp only [Act.put, List.setIfInBounds_toArray, List.set_cons_zero, List.set_cons_succ]
          refine wpAnyH_take (i := 7) (oi := { dst := some 37, op := _, type := _, pos := _, after := _, guard := _ }) (v := undef) rfl (by kernel_rfl) (by kernel_rfl) (by kernel_rfl) (fun _ _ _ h => h) (Or.inr ⟨by rfl, rfl⟩) (by assumption) ?_
          try simp only [Act.put, List.setIfInBounds_toArray, List.set_cons_zero, List.set_cons_succ]
          refine wpAnyH_take (i := 8) (oi := { dst := some 38, op := _, type := _, pos := _, after := _, guard := _ }) (v := undef) rfl (by kernel_rfl) (by kernel_rfl) (by kernel_rfl) (fun _ _ _ h => h) (Or.inr ⟨by rfl, rfl⟩) (by assumption) ?_
          try simp only [Act.put, List.setIfInBounds_toArray, List.set_cons_zero, List.set_cons_succ]
          refine wpAnyH_take (i := 9) (oi := { dst := some 39, op := _, type := _, pos := _, after := _, guard := _ }) (v := undef) rfl (by kernel_rfl) (by kernel_rfl) (by kernel_rfl) (fun _ _ _ h => h) (Or.inr ⟨by rfl, rfl⟩) (by assumption) ?_
          try simp only [Act.put, List.setIfInBounds_toArray, List.set_cons_zero, List.set_cons_succ]
          refine wpAnyH_take (i := 10) (oi := { dst := some 40, op := _, type := _, pos := _, after := _, guard := _ }) (v := undef) rfl (by kernel_rfl) (by kernel_rfl) (by kernel_rfl) (fun _ _ _ h => h) (Or.inr ⟨by rfl, rfl⟩) (by assumption) ?_
          try simp only [Act.put, List.setIfInBounds_toArray, List.set_cons_zero, List.set_cons_succ]
          refine wpAnyH_take (i := 11) (oi := { dst := some 41, op := _, type := _, pos := _, after := _, guard := _ }) (v := undef) rfl (by kernel_rfl) (by kernel_rfl) (by kernel_rfl) (fun _ _ _ h => h) (Or.inr ⟨by rfl, rfl⟩) (by assumption) ?_
          try simp only [Act.put, List.setIfInBounds_toArray, List.set_cons_zero, List.set_cons_succ]
          refine wpAnyH_take (i := 12) (oi := { dst := some 42, op := _, type := _, pos := _, after := _, guard := _ }) (v := undef) rfl (by kernel_rfl) (by kernel_rfl) (by kernel_rfl) (fun _ _ _ h => h) (Or.inr ⟨by rfl, rfl⟩) (by assumption) ?_
          try simp only [Act.put, List.setIfInBounds_toArray, List.set_cons_zero, List.set_cons_succ]
          refine wpAnyH_take (i := 13) (oi := { dst := some 43, op := _, type := _, pos := _, after := _, guard := _ }) (v := ?_) rfl (by kernel_rfl) (by kernel_rfl) (by kernel_rfl) (fun _ _ _ h => h) (Or.inl ⟨by rfl, ?_⟩) (by assumption) ?_
          rotate_left
          · intro w hSw
            try dsimp only at hSw
            go_simp
            try with_reducible rfl
          try simp only [Act.put, List.setIfInBounds_toArray, List.set_cons_zero, List.set_cons_succ]
          refine wpAnyH_done (by kernel_rfl) ?_ _
          clear hS
          have b0 : World.cell? (w3.drew) ⟨b7, 0, none⟩ = some (.int .i64 t) := Csn.KbC.cell S0.out.x7 rfl
          have b1 : World.cell? (w3.drew) ⟨b7, 1, none⟩ = some (.int .i64 s) := Csn.KbC.cell S0.out.x7 rfl
          have b2 : World.cell? (w3.drew) ⟨b7, 2, none⟩ = some (.int .i64 r) := Csn.KbC.cell S0.out.x7 rfl
          have b3 : World.cell? (w3.drew) ⟨b7, 3, none⟩ = some (.int .i64 o) := Csn.KbC.cell S0.out.x7 rfl
          have b4 : World.cell? (w3.drew) ⟨b7, 4, none⟩ = some (.string id) := Csn.KbC.cell S0.out.x7 rfl
          have b5 : World.cell? (w3.drew) ⟨b7, 5, none⟩ = some (.string nm) := Csn.KbC.cell S0.out.x7 rfl
          have b6 : World.cell? (w3.drew) ⟨b7, 6, none⟩ = some (.string ak) := Csn.KbC.cell S0.out.x7 rfl
          have b7 : World.cell? (w3.drew) ⟨b7, 7, none⟩ = some (.string vl) := Csn.KbC.cell S0.out.x7 rfl
          obtain ⟨w5, hrun0, hw5, hg5⟩ := S0.out.inv.put (g := ⟨(t, s, r), o, id, nm, ak, vl⟩) HO.out (by omega) HSm.out.2 HNw.out
          have hrun : (Instr.mapUpdate 90 (.map (some mb)) (.agg #[.int .i64 t, .int .i64 s, .int .i64 r]) (.agg #[.int .i64 t, .int .i64 s, .int .i64 r, .int .i64 o, .string id, .string nm, .string ak, .string vl])).run Tryz.prog w3.drew = .ok () w5 := hrun0
          have HI5 := Lib.hid hw5
          have HB5 := Lib.hid (HBw.out.keptm S0.out.inv.map hg5)
          clear hrun0 hw5 hg5
          go_wp2_with fail
          go_roundw
          case rel => exact ⟨i + 1, by omega, by go_num, Lib.hid (by rw [HM.out]; exact ⟨HI5.out, HB5.out⟩)⟩
          case measure => simp [intOf]; omega
        | some d =>
          have HDs := Lib.hid (best_mem hbest)
          obtain ⟨dc, o2, id2, nm2, ak2, vl2⟩ := d
          have hdc : dc = (t, s, r) := HDs.out.2.2.1
          subst hdc
          have HDz := Lib.hid (HKm.out _ HDs.out.1)
          have HLook := Lib.hid (show (Instr.lookup 90 (.map (some mb)) (.agg #[.int .i64 t, .int .i64 s, .int .i64 r]) true).run Tryz.prog w2 = .ok (.tuple #[.agg #[.int .i64 t, .int .i64 s, .int .i64 r, .int .i64 o2, .string id2, .string nm2, .string ak2, .string vl2], .bool true]) w2 from by rw [hbest] at hlook; exact hlook)
          clear hlook
          have hlook := HLook.out
          have hbx := box_below w2 (.cells #[.int .i64 t, .int .i64 s, .int .i64 r, .int .i64 o2, .string id2, .string nm2, .string ak2, .string vl2] 26)
          have HP0 := Lib.hid (show PxI w mb L i b7 ⟨(t, s, r), o, id, nm, ak, vl⟩ w2.heap.size ⟨(t, s, r), o2, id2, nm2, ak2, vl2⟩ (w2.alloc (.cells #[.int .i64 t, .int .i64 s, .int .i64 r, .int .i64 o2, .string id2, .string nm2, .string ak2, .string vl2] 26)) from ⟨HI.out.1.step hbx, Csn.KbC.step HK2.out hbx, kbc_new w2 _⟩)
          have HBw := Lib.hid (HI.out.2.below hbx)
          clear hbx
          go_wp2_with fail
          clear hlook b0 b1 b2
          obtain ⟨b8, hb8⟩ : ∃ x, w2.heap.size = x := ⟨_, rfl⟩
          rw [hb8] at HP0 ⊢
          clear hb8
          generalize w2.alloc (.cells #[.int .i64 t, .int .i64 s, .int .i64 r, .int .i64 o2, .string id2, .string nm2, .string ak2, .string vl2] 26) = w3 at HP0 HBw ⊢
          have HLg := Lib.hid (fun V (hV : COk V) => line_s ⟨(t, s, r), o, id, nm, ak, vl⟩ V HSm.out.1 hV (chk_ok HCg.out).lo (chk_ok HCg.out).hi)
          have HLd := Lib.hid (fun V (hV : COk V) => line_s ⟨(t, s, r), o2, id2, nm2, ak2, vl2⟩ V HDz.out hV (chk_ok HDs.out.2.1).lo (chk_ok HDs.out.2.1).hi)
          obtain ⟨lg, hlg⟩ : ∃ x, lineG ⟨(t, s, r), o, id, nm, ak, vl⟩ = x := ⟨_, rfl⟩
          obtain ⟨ld, hld⟩ : ∃ x, lineG ⟨(t, s, r), o2, id2, nm2, ak2, vl2⟩ = x := ⟨_, rfl⟩
          have HLn := Lib.hid (And.intro hlg hld)
          rw [hlg] at HLg
          rw [hld] at HLd
          rw [chV_is] at HLg HLd
          clear hlg hld
          obtain ⟨z, hz⟩ : ∃ x, decide (cmpS lg ld < 0) = x := ⟨_, rfl⟩
          have HY := Lib.hid hz
          have hA : Op.bytesLess lg.toList ld.toList = z := by rw [bl_dec]; exact hz
          clear hz
          have HSt := Lib.hid (show ∀ V : World, PxI w mb L i b7 ⟨(t, s, r), o, id, nm, ak, vl⟩ b8 ⟨(t, s, r), o2, id2, nm2, ak2, vl2⟩ V → (fun V => V.cell? ⟨b7, 0, none⟩ = some (.int .i64 t) ∧ V.cell? ⟨b7, 1, none⟩ = some (.int .i64 s) ∧ V.cell? ⟨b7, 2, none⟩ = some (.int .i64 r) ∧ V.cell? ⟨b7, 3, none⟩ = some (.int .i64 o) ∧ V.cell? ⟨b7, 4, none⟩ = some (.string id) ∧ V.cell? ⟨b7, 5, none⟩ = some (.string nm) ∧ V.cell? ⟨b7, 6, none⟩ = some (.string ak) ∧ V.cell? ⟨b7, 7, none⟩ = some (.string vl) ∧ V.cell? ⟨b8, 0, none⟩ = some (.int .i64 t) ∧ V.cell? ⟨b8, 1, none⟩ = some (.int .i64 s) ∧ V.cell? ⟨b8, 2, none⟩ = some (.int .i64 r) ∧ V.cell? ⟨b8, 3, none⟩ = some (.int .i64 o2) ∧ V.cell? ⟨b8, 4, none⟩ = some (.string id2) ∧ V.cell? ⟨b8, 5, none⟩ = some (.string nm2) ∧ V.cell? ⟨b8, 6, none⟩ = some (.string ak2) ∧ V.cell? ⟨b8, 7, none⟩ = some (.string vl2) ∧ Hid (PxI w mb L i b7 ⟨(t, s, r), o, id, nm, ak, vl⟩ b8 ⟨(t, s, r), o2, id2, nm2, ak2, vl2⟩ V)) V from fun V h => ⟨Csn.KbC.cell h.x7 rfl, Csn.KbC.cell h.x7 rfl, Csn.KbC.cell h.x7 rfl, Csn.KbC.cell h.x7 rfl, Csn.KbC.cell h.x7 rfl, Csn.KbC.cell h.x7 rfl, Csn.KbC.cell h.x7 rfl, Csn.KbC.cell h.x7 rfl, Csn.KbC.cell h.x8 rfl, Csn.KbC.cell h.x8 rfl, Csn.KbC.cell h.x8 rfl, Csn.KbC.cell h.x8 rfl, Csn.KbC.cell h.x8 rfl, Csn.KbC.cell h.x8 rfl, Csn.KbC.cell h.x8 rfl, Csn.KbC.cell h.x8 rfl, Lib.hid h⟩)
          by_cases q_o : o = o2
          · subst q_o
            by_cases q_id : id = id2
            · subst q_id
              by_cases q_nm : nm = nm2
              · subst q_nm
                by_cases q_ak : ak = ak2
                · subst q_ak
                  by_cases q_vl : vl = vl2
                  · subst q_vl
                    have HPd := Lib.hid (HP0.out.step (Below.refl _ _).drew)
                    have S0 := HSt.out _ HPd.out
                    have HBw := Lib.hid (HBw.out.below (Below.refl _ _).drew)
                    have HKp := Lib.hid (best_eq (g := ⟨(t, s, r), o, id, nm, ak, vl⟩) hbest)
                    refine wp_region_held_drew (S := fun V => V.cell? ⟨b7, 0, none⟩ = some (.int .i64 t) ∧ V.cell? ⟨b7, 1, none⟩ = some (.int .i64 s) ∧ V.cell? ⟨b7, 2, none⟩ = some (.int .i64 r) ∧ V.cell? ⟨b7, 3, none⟩ = some (.int .i64 o) ∧ V.cell? ⟨b7, 4, none⟩ = some (.string id) ∧ V.cell? ⟨b7, 5, none⟩ = some (.string nm) ∧ V.cell? ⟨b7, 6, none⟩ = some (.string ak) ∧ V.cell? ⟨b7, 7, none⟩ = some (.string vl) ∧ V.cell? ⟨b8, 0, none⟩ = some (.int .i64 t) ∧ V.cell? ⟨b8, 1, none⟩ = some (.int .i64 s) ∧ V.cell? ⟨b8, 2, none⟩ = some (.int .i64 r) ∧ V.cell? ⟨b8, 3, none⟩ = some (.int .i64 o) ∧ V.cell? ⟨b8, 4, none⟩ = some (.string id) ∧ V.cell? ⟨b8, 5, none⟩ = some (.string nm) ∧ V.cell? ⟨b8, 6, none⟩ = some (.string ak) ∧ V.cell? ⟨b8, 7, none⟩ = some (.string vl) ∧ Hid (PxI w mb L i b7 ⟨(t, s, r), o, id, nm, ak, vl⟩ b8 ⟨(t, s, r), o, id, nm, ak, vl⟩ V)) (by kernel_rfl) (S0) (fun hS => ?_)
                    refine wpAnyH_take (i := 0) (oi := { dst := some 30, op := _, type := _, pos := _, after := _, guard := _ }) (v := ?_) rfl (by kernel_rfl) (by kernel_rfl) (by kernel_rfl) (fun _ _ _ h => h) (Or.inl ⟨by rfl, ?_⟩) (by assumption) ?_
                    rotate_left
                    · intro w hSw
                      try dsimp only at hSw
                      go_simp
                      try with_reducible rfl
                    try simp only [Act.put, List.setIfInBounds_toArray, List.set_cons_zero, List.set_cons_succ]
                    refine wpAnyH_take (i := 1) (oi := { dst := some 31, op := _, type := _, pos := _, after := _, guard := _ }) (v := ?_) rfl (by kernel_rfl) (by kernel_rfl) (by kernel_rfl) (fun _ _ _ h => h) (Or.inl ⟨by rfl, ?_⟩) (by assumption) ?_
                    rotate_left
                    · intro w hSw
                      try dsimp only at hSw
                      go_simp
                      try with_reducible rfl
                    try simp only [Act.put, List.setIfInBounds_toArray, List.set_cons_zero, List.set_cons_succ]
                    refine wpAnyH_take (i := 2) (oi := { dst := some 32, op := _, type := _, pos := _, after := _, guard := _ }) (v := ?_) rfl (by kernel_rfl) (by kernel_rfl) (by kernel_rfl) (fun _ _ _ h => h) (Or.inl ⟨by rfl, ?_⟩) (by assumption) ?_
                    rotate_left
                    · intro w hSw
                      try dsimp only at hSw
                      go_simp
                      try with_reducible rfl
                    try simp only [Act.put, List.setIfInBounds_toArray, List.set_cons_zero, List.set_cons_succ]
                    refine wpAnyH_take (i := 3) (oi := { dst := some 33, op := _, type := _, pos := _, after := _, guard := _ }) (v := ?_) rfl (by kernel_rfl) (by kernel_rfl) (by kernel_rfl) (fun _ _ _ h => h) (Or.inl ⟨by rfl, ?_⟩) (by assumption) ?_
                    rotate_left
                    · intro w hSw
                      try dsimp only at hSw
                      go_simp
                      try with_reducible rfl
                    try simp only [Act.put, List.setIfInBounds_toArray, List.set_cons_zero, List.set_cons_succ]
                    refine wpAnyH_take (i := 4) (oi := { dst := some 34, op := _, type := _, pos := _, after := _, guard := _ }) (v := ?_) rfl (by kernel_rfl) (by kernel_rfl) (by kernel_rfl) (fun _ _ _ h => h) (Or.inl ⟨by rfl, ?_⟩) (by assumption) ?_
                    rotate_left
                    · intro w hSw
                      try dsimp only at hSw
                      go_simp
                      try with_reducible rfl
                    try simp only [Act.put, List.setIfInBounds_toArray, List.set_cons_zero, List.set_cons_succ]
                    refine wpAnyH_take (i := 5) (oi := { dst := some 35, op := _, type := _, pos := _, after := _, guard := _ }) (v := ?_) rfl (by kernel_rfl) (by kernel_rfl) (by kernel_rfl) (fun _ _ _ h => h) (Or.inl ⟨by rfl, ?_⟩) (by assumption) ?_
                    rotate_left
                    · intro w hSw
                      try dsimp only at hSw
                      go_simp
                      try with_reducible rfl
                    try simp only [Act.put, List.setIfInBounds_toArray, List.set_cons_zero, List.set_cons_succ]
                    refine wpAnyH_take (i := 6) (oi := { dst := some 36, op := _, type := _, pos := _, after := _, guard := _ }) (v := ?_) rfl (by kernel_rfl) (by kernel_rfl) (by kernel_rfl) (fun _ _ _ h => h) (Or.inl ⟨by rfl, ?_⟩) (by assumption) ?_
                    rotate_left
                    · intro w hSw
                      try dsimp only at hSw
                      go_simp
                      try with_reducible rfl
                    try simp only [Act.put, List.setIfInBounds_toArray, List.set_cons_zero, List.set_cons_succ]
                    refine wpAnyH_take (i := 7) (oi := { dst := some 37, op := _, type := _, pos := _, after := _, guard := _ }) (v := undef) rfl (by kernel_rfl) (by kernel_rfl) (by kernel_rfl) (fun _ _ _ h => h) (Or.inr ⟨by rfl, rfl⟩) (by assumption) ?_
                    try simp only [Act.put, List.setIfInBounds_toArray, List.set_cons_zero, List.set_cons_succ]
                    refine wpAnyH_take (i := 8) (oi := { dst := some 38, op := _, type := _, pos := _, after := _, guard := _ }) (v := undef) rfl (by kernel_rfl) (by kernel_rfl) (by kernel_rfl) (fun _ _ _ h => h) (Or.inr ⟨by rfl, rfl⟩) (by assumption) ?_
                    try simp only [Act.put, List.setIfInBounds_toArray, List.set_cons_zero, List.set_cons_succ]
                    refine wpAnyH_take (i := 9) (oi := { dst := some 39, op := _, type := _, pos := _, after := _, guard := _ }) (v := undef) rfl (by kernel_rfl) (by kernel_rfl) (by kernel_rfl) (fun _ _ _ h => h) (Or.inr ⟨by rfl, rfl⟩) (by assumption) ?_
                    try simp only [Act.put, List.setIfInBounds_toArray, List.set_cons_zero, List.set_cons_succ]
                    refine wpAnyH_take (i := 10) (oi := { dst := some 40, op := _, type := _, pos := _, after := _, guard := _ }) (v := undef) rfl (by kernel_rfl) (by kernel_rfl) (by kernel_rfl) (fun _ _ _ h => h) (Or.inr ⟨by rfl, rfl⟩) (by assumption) ?_
                    try simp only [Act.put, List.setIfInBounds_toArray, List.set_cons_zero, List.set_cons_succ]
                    refine wpAnyH_take (i := 11) (oi := { dst := some 41, op := _, type := _, pos := _, after := _, guard := _ }) (v := undef) rfl (by kernel_rfl) (by kernel_rfl) (by kernel_rfl) (fun _ _ _ h => h) (Or.inr ⟨by rfl, rfl⟩) (by assumption) ?_
                    try simp only [Act.put, List.setIfInBounds_toArray, List.set_cons_zero, List.set_cons_succ]
                    refine wpAnyH_take (i := 12) (oi := { dst := some 42, op := _, type := _, pos := _, after := _, guard := _ }) (v := ?_) rfl (by kernel_rfl) (by kernel_rfl) (by kernel_rfl) (fun _ _ _ h => h) (Or.inl ⟨by rfl, ?_⟩) (by assumption) ?_
                    rotate_left
                    · intro w hSw
                      try dsimp only at hSw
                      go_simp
                      try with_reducible rfl
                    try simp only [Act.put, List.setIfInBounds_toArray, List.set_cons_zero, List.set_cons_succ]
                    refine wpAnyH_take (i := 13) (oi := { dst := some 43, op := _, type := _, pos := _, after := _, guard := _ }) (v := ?_) rfl (by kernel_rfl) (by kernel_rfl) (by kernel_rfl) (fun _ _ _ h => h) (Or.inl ⟨by rfl, ?_⟩) (by assumption) ?_
                    rotate_left
                    · intro w hSw
                      try dsimp only at hSw
                      go_simp
                      try with_reducible rfl
                    try simp only [Act.put, List.setIfInBounds_toArray, List.set_cons_zero, List.set_cons_succ]
                    refine wpAnyH_done (by kernel_rfl) ?_ _
                    go_wp2_with fail
                    go_roundw
                    case rel => exact ⟨i + 1, by omega, by go_num, Lib.hid (by rw [HM.out]; exact ⟨HPd.out.inv.keep HKp.out, HBw.out⟩)⟩
                    case measure => simp [intOf]; omega
                  · have d2_vl : (vl.toList == vl2.toList) = false := by rw [str_eq]; exact decide_eq_false q_vl
                    have HPd := Lib.hid (HP0.out.step (Below.refl _ _).drew)
                    have S0 := HSt.out _ HPd.out
                    have HBw := Lib.hid (HBw.out.below (Below.refl _ _).drew)
                    refine wp_region_held_drew (S := fun V => V.cell? ⟨b7, 0, none⟩ = some (.int .i64 t) ∧ V.cell? ⟨b7, 1, none⟩ = some (.int .i64 s) ∧ V.cell? ⟨b7, 2, none⟩ = some (.int .i64 r) ∧ V.cell? ⟨b7, 3, none⟩ = some (.int .i64 o) ∧ V.cell? ⟨b7, 4, none⟩ = some (.string id) ∧ V.cell? ⟨b7, 5, none⟩ = some (.string nm) ∧ V.cell? ⟨b7, 6, none⟩ = some (.string ak) ∧ V.cell? ⟨b7, 7, none⟩ = some (.string vl) ∧ V.cell? ⟨b8, 0, none⟩ = some (.int .i64 t) ∧ V.cell? ⟨b8, 1, none⟩ = some (.int .i64 s) ∧ V.cell? ⟨b8, 2, none⟩ = some (.int .i64 r) ∧ V.cell? ⟨b8, 3, none⟩ = some (.int .i64 o) ∧ V.cell? ⟨b8, 4, none⟩ = some (.string id) ∧ V.cell? ⟨b8, 5, none⟩ = some (.string nm) ∧ V.cell? ⟨b8, 6, none⟩ = some (.string ak) ∧ V.cell? ⟨b8, 7, none⟩ = some (.string vl2) ∧ Hid (PxI w mb L i b7 ⟨(t, s, r), o, id, nm, ak, vl⟩ b8 ⟨(t, s, r), o, id, nm, ak, vl2⟩ V)) (by kernel_rfl) (S0) (fun hS => ?_)
                    refine wpAnyH_take (i := 0) (oi := { dst := some 30, op := _, type := _, pos := _, after := _, guard := _ }) (v := ?_) rfl (by kernel_rfl) (by kernel_rfl) (by kernel_rfl) (fun _ _ _ h => h) (Or.inl ⟨by rfl, ?_⟩) (by assumption) ?_
                    rotate_left
                    · intro w hSw
                      try dsimp only at hSw
                      go_simp
                      try with_reducible rfl
                    try simp only [Act.put, List.setIfInBounds_toArray, List.set_cons_zero, List.set_cons_succ]
                    refine wpAnyH_take (i := 1) (oi := { dst := some 31, op := _, type := _, pos := _, after := _, guard := _ }) (v := ?_) rfl (by kernel_rfl) (by kernel_rfl) (by kernel_rfl) (fun _ _ _ h => h) (Or.inl ⟨by rfl, ?_⟩) (by assumption) ?_
                    rotate_left
                    · intro w hSw
                      try dsimp only at hSw
                      go_simp
                      try with_reducible rfl
                    try simp only [Act.put, List.setIfInBounds_toArray, List.set_cons_zero, List.set_cons_succ]
                    refine wpAnyH_take (i := 2) (oi := { dst := some 32, op := _, type := _, pos := _, after := _, guard := _ }) (v := ?_) rfl (by kernel_rfl) (by kernel_rfl) (by kernel_rfl) (fun _ _ _ h => h) (Or.inl ⟨by rfl, ?_⟩) (by assumption) ?_
                    rotate_left
                    · intro w hSw
                      try dsimp only at hSw
                      go_simp
                      try with_reducible rfl
                    try simp only [Act.put, List.setIfInBounds_toArray, List.set_cons_zero, List.set_cons_succ]
                    refine wpAnyH_take (i := 3) (oi := { dst := some 33, op := _, type := _, pos := _, after := _, guard := _ }) (v := ?_) rfl (by kernel_rfl) (by kernel_rfl) (by kernel_rfl) (fun _ _ _ h => h) (Or.inl ⟨by rfl, ?_⟩) (by assumption) ?_
                    rotate_left
                    · intro w hSw
                      try dsimp only at hSw
                      go_simp
                      try with_reducible rfl
                    try simp only [Act.put, List.setIfInBounds_toArray, List.set_cons_zero, List.set_cons_succ]
                    refine wpAnyH_take (i := 4) (oi := { dst := some 34, op := _, type := _, pos := _, after := _, guard := _ }) (v := ?_) rfl (by kernel_rfl) (by kernel_rfl) (by kernel_rfl) (fun _ _ _ h => h) (Or.inl ⟨by rfl, ?_⟩) (by assumption) ?_
                    rotate_left
                    · intro w hSw
                      try dsimp only at hSw
                      go_simp
                      try with_reducible rfl
                    try simp only [Act.put, List.setIfInBounds_toArray, List.set_cons_zero, List.set_cons_succ]
                    refine wpAnyH_take (i := 5) (oi := { dst := some 35, op := _, type := _, pos := _, after := _, guard := _ }) (v := ?_) rfl (by kernel_rfl) (by kernel_rfl) (by kernel_rfl) (fun _ _ _ h => h) (Or.inl ⟨by rfl, ?_⟩) (by assumption) ?_
                    rotate_left
                    · intro w hSw
                      try dsimp only at hSw
                      go_simp
                      try with_reducible rfl
                    try simp only [Act.put, List.setIfInBounds_toArray, List.set_cons_zero, List.set_cons_succ]
                    refine wpAnyH_take (i := 6) (oi := { dst := some 36, op := _, type := _, pos := _, after := _, guard := _ }) (v := ?_) rfl (by kernel_rfl) (by kernel_rfl) (by kernel_rfl) (fun _ _ _ h => h) (Or.inl ⟨by rfl, ?_⟩) (by assumption) ?_
                    rotate_left
                    · intro w hSw
                      try dsimp only at hSw
                      go_simp
                      try with_reducible rfl
                    try simp only [Act.put, List.setIfInBounds_toArray, List.set_cons_zero, List.set_cons_succ]
                    refine wpAnyH_take (i := 7) (oi := { dst := some 37, op := _, type := _, pos := _, after := _, guard := _ }) (v := ?_) rfl (by kernel_rfl) (by kernel_rfl) (by kernel_rfl) (fun _ _ _ h => h) (Or.inl ⟨by rfl, ?_⟩) (by assumption) ?_
                    rotate_left
                    · intro w hSw
                      try dsimp only at hSw
                      go_simp
                      try with_reducible rfl
                    try simp only [Act.put, List.setIfInBounds_toArray, List.set_cons_zero, List.set_cons_succ]
                    refine wpAnyH_take (i := 9) (oi := { dst := some 39, op := _, type := _, pos := _, after := _, guard := _ }) (v := ?_) rfl (by kernel_rfl) (by kernel_rfl) (by kernel_rfl) (fun _ _ _ h => h) (Or.inl ⟨by rfl, ?_⟩) (by assumption) ?_
                    rotate_left
                    · intro w hSw
                      try dsimp only at hSw
                      go_simp
                      try with_reducible rfl
                    try simp only [Act.put, List.setIfInBounds_toArray, List.set_cons_zero, List.set_cons_succ]
                    refine wpAnyH_ready (rs := [8]) (by kernel_rfl) (by simp) ?_
                    refine AllReadyH.cons rfl (fun K hK => ?_) AllReadyH.nil
                    go_simp
                    refine (HLg.out _ hS.2.2.2.2.2.2.2.2.2.2.2.2.2.2.2.2.out.inv.ok).mono ?_
                    rintro _ v4 ⟨rfl, hb⟩
                    have HP4 := Lib.hid (hS.2.2.2.2.2.2.2.2.2.2.2.2.2.2.2.2.out.step hb)
                    have HB4 := Lib.hid (HBw.out.below hb)
                    clear hb
                    go_wp2_with fail
                    refine hK.out _ _ ?_ (fun hHeld => ?_)
                    · exact HSt.out _ HP4.out
                    clear hK K
                    try simp only [Act.put, List.setIfInBounds_toArray, List.set_cons_zero, List.set_cons_succ]
                    refine wpAnyH_ready (rs := [10]) (by kernel_rfl) (by simp) ?_
                    refine AllReadyH.cons rfl (fun K hK => ?_) AllReadyH.nil
                    go_simp
                    refine (HLd.out _ HP4.out.inv.ok).mono ?_
                    rintro _ v5 ⟨rfl, hb⟩
                    have HP5 := Lib.hid (HP4.out.step hb)
                    have HB5b := Lib.hid (HB4.out.below hb)
                    clear hb
                    go_wp2_with fail
                    refine hK.out _ _ ?_ (fun hHeld => ?_)
                    · exact HSt.out _ HP5.out
                    clear hK K
                    try simp only [Act.put, List.setIfInBounds_toArray, List.set_cons_zero, List.set_cons_succ]
                    refine wpAnyH_take (i := 11) (oi := { dst := some 41, op := _, type := _, pos := _, after := _, guard := _ }) (v := ?_) rfl (by kernel_rfl) (by kernel_rfl) (by kernel_rfl) (fun _ _ _ h => h) (Or.inl ⟨by rfl, ?_⟩) (by assumption) ?_
                    rotate_left
                    · intro w hSw
                      try dsimp only at hSw
                      go_simp
                      try with_reducible rfl
                    try simp only [Act.put, List.setIfInBounds_toArray, List.set_cons_zero, List.set_cons_succ]
                    refine wpAnyH_take (i := 12) (oi := { dst := some 42, op := _, type := _, pos := _, after := _, guard := _ }) (v := ?_) rfl (by kernel_rfl) (by kernel_rfl) (by kernel_rfl) (fun _ _ _ h => h) (Or.inl ⟨by rfl, ?_⟩) (by assumption) ?_
                    rotate_left
                    · intro w hSw
                      try dsimp only at hSw
                      go_simp
                      try with_reducible rfl
                    try simp only [Act.put, List.setIfInBounds_toArray, List.set_cons_zero, List.set_cons_succ]
                    refine wpAnyH_take (i := 13) (oi := { dst := some 43, op := _, type := _, pos := _, after := _, guard := _ }) (v := ?_) rfl (by kernel_rfl) (by kernel_rfl) (by kernel_rfl) (fun _ _ _ h => h) (Or.inl ⟨by rfl, ?_⟩) (by assumption) ?_
                    rotate_left
                    · intro w hSw
                      try dsimp only at hSw
                      go_simp
                      try with_reducible rfl
                    try simp only [Act.put, List.setIfInBounds_toArray, List.set_cons_zero, List.set_cons_succ]
                    refine wpAnyH_done (by kernel_rfl) ?_ _
                    clear hHeld hS S0 HP4 HB4
                    cases z
                    · have HKp := Lib.hid (best_more (g := ⟨(t, s, r), o, id, nm, ak, vl⟩) HCg.out hbest (by rw [HLn.out.1, HLn.out.2]; exact of_decide_eq_false HY.out))
                      go_wp2_with fail
                      go_roundw
                      case rel => exact ⟨i + 1, by omega, by go_num, Lib.hid (by rw [HM.out]; exact ⟨HP5.out.inv.keep HKp.out, HB5b.out⟩)⟩
                      case measure => simp [intOf]; omega
                    · have HNw := Lib.hid (best_less (g := ⟨(t, s, r), o, id, nm, ak, vl⟩) HCg.out hbest (by rw [HLn.out.1, HLn.out.2]; exact of_decide_eq_true HY.out))
                      have b0 : World.cell? (v5) ⟨b7, 0, none⟩ = some (.int .i64 t) := Csn.KbC.cell HP5.out.x7 rfl
                      have b1 : World.cell? (v5) ⟨b7, 1, none⟩ = some (.int .i64 s) := Csn.KbC.cell HP5.out.x7 rfl
                      have b2 : World.cell? (v5) ⟨b7, 2, none⟩ = some (.int .i64 r) := Csn.KbC.cell HP5.out.x7 rfl
                      have b3 : World.cell? (v5) ⟨b7, 3, none⟩ = some (.int .i64 o) := Csn.KbC.cell HP5.out.x7 rfl
                      have b4 : World.cell? (v5) ⟨b7, 4, none⟩ = some (.string id) := Csn.KbC.cell HP5.out.x7 rfl
                      have b5 : World.cell? (v5) ⟨b7, 5, none⟩ = some (.string nm) := Csn.KbC.cell HP5.out.x7 rfl
                      have b6 : World.cell? (v5) ⟨b7, 6, none⟩ = some (.string ak) := Csn.KbC.cell HP5.out.x7 rfl
                      have b7 : World.cell? (v5) ⟨b7, 7, none⟩ = some (.string vl) := Csn.KbC.cell HP5.out.x7 rfl
                      obtain ⟨w5, hrun0, hw5, hg5⟩ := HP5.out.inv.put (g := ⟨(t, s, r), o, id, nm, ak, vl⟩) HO.out (by omega) HSm.out.2 HNw.out
                      have hrun : (Instr.mapUpdate 90 (.map (some mb)) (.agg #[.int .i64 t, .int .i64 s, .int .i64 r]) (.agg #[.int .i64 t, .int .i64 s, .int .i64 r, .int .i64 o, .string id, .string nm, .string ak, .string vl])).run Tryz.prog v5 = .ok () w5 := hrun0
                      have HI5 := Lib.hid hw5
                      have HB5 := Lib.hid (HB5b.out.keptm HP5.out.inv.map hg5)
                      clear hrun0 hw5 hg5
                      go_wp2_with fail
                      go_roundw
                      case rel => exact ⟨i + 1, by omega, by go_num, Lib.hid (by rw [HM.out]; exact ⟨HI5.out, HB5.out⟩)⟩
                      case measure => simp [intOf]; omega
                · have d2_ak : (ak.toList == ak2.toList) = false := by rw [str_eq]; exact decide_eq_false q_ak
                  have HPd := Lib.hid (HP0.out.step (Below.refl _ _).drew)
                  have S0 := HSt.out _ HPd.out
                  have HBw := Lib.hid (HBw.out.below (Below.refl _ _).drew)
                  refine wp_region_held_drew (S := fun V => V.cell? ⟨b7, 0, none⟩ = some (.int .i64 t) ∧ V.cell? ⟨b7, 1, none⟩ = some (.int .i64 s) ∧ V.cell? ⟨b7, 2, none⟩ = some (.int .i64 r) ∧ V.cell? ⟨b7, 3, none⟩ = some (.int .i64 o) ∧ V.cell? ⟨b7, 4, none⟩ = some (.string id) ∧ V.cell? ⟨b7, 5, none⟩ = some (.string nm) ∧ V.cell? ⟨b7, 6, none⟩ = some (.string ak) ∧ V.cell? ⟨b7, 7, none⟩ = some (.string vl) ∧ V.cell? ⟨b8, 0, none⟩ = some (.int .i64 t) ∧ V.cell? ⟨b8, 1, none⟩ = some (.int .i64 s) ∧ V.cell? ⟨b8, 2, none⟩ = some (.int .i64 r) ∧ V.cell? ⟨b8, 3, none⟩ = some (.int .i64 o) ∧ V.cell? ⟨b8, 4, none⟩ = some (.string id) ∧ V.cell? ⟨b8, 5, none⟩ = some (.string nm) ∧ V.cell? ⟨b8, 6, none⟩ = some (.string ak2) ∧ V.cell? ⟨b8, 7, none⟩ = some (.string vl2) ∧ Hid (PxI w mb L i b7 ⟨(t, s, r), o, id, nm, ak, vl⟩ b8 ⟨(t, s, r), o, id, nm, ak2, vl2⟩ V)) (by kernel_rfl) (S0) (fun hS => ?_)
                  refine wpAnyH_take (i := 0) (oi := { dst := some 30, op := _, type := _, pos := _, after := _, guard := _ }) (v := ?_) rfl (by kernel_rfl) (by kernel_rfl) (by kernel_rfl) (fun _ _ _ h => h) (Or.inl ⟨by rfl, ?_⟩) (by assumption) ?_
                  rotate_left
                  · intro w hSw
                    try dsimp only at hSw
                    go_simp
                    try with_reducible rfl
                  try simp only [Act.put, List.setIfInBounds_toArray, List.set_cons_zero, List.set_cons_succ]
                  refine wpAnyH_take (i := 1) (oi := { dst := some 31, op := _, type := _, pos := _, after := _, guard := _ }) (v := ?_) rfl (by kernel_rfl) (by kernel_rfl) (by kernel_rfl) (fun _ _ _ h => h) (Or.inl ⟨by rfl, ?_⟩) (by assumption) ?_
                  rotate_left
                  · intro w hSw
                    try dsimp only at hSw
                    go_simp
                    try with_reducible rfl
                  try simp only [Act.put, List.setIfInBounds_toArray, List.set_cons_zero, List.set_cons_succ]
                  refine wpAnyH_take (i := 2) (oi := { dst := some 32, op := _, type := _, pos := _, after := _, guard := _ }) (v := ?_) rfl (by kernel_rfl) (by kernel_rfl) (by kernel_rfl) (fun _ _ _ h => h) (Or.inl ⟨by rfl, ?_⟩) (by assumption) ?_
                  rotate_left
                  · intro w hSw
                    try dsimp only at hSw
                    go_simp
                    try with_reducible rfl
                  try simp only [Act.put, List.setIfInBounds_toArray, List.set_cons_zero, List.set_cons_succ]
                  refine wpAnyH_take (i := 3) (oi := { dst := some 33, op := _, type := _, pos := _, after := _, guard := _ }) (v := ?_) rfl (by kernel_rfl) (by kernel_rfl) (by kernel_rfl) (fun _ _ _ h => h) (Or.inl ⟨by rfl, ?_⟩) (by assumption) ?_
                  rotate_left
                  · intro w hSw
                    try dsimp only at hSw
                    go_simp
                    try with_reducible rfl
                  try simp only [Act.put, List.setIfInBounds_toArray, List.set_cons_zero, List.set_cons_succ]
                  refine wpAnyH_take (i := 4) (oi := { dst := some 34, op := _, type := _, pos := _, after := _, guard := _ }) (v := ?_) rfl (by kernel_rfl) (by kernel_rfl) (by kernel_rfl) (fun _ _ _ h => h) (Or.inl ⟨by rfl, ?_⟩) (by assumption) ?_
                  rotate_left
                  · intro w hSw
                    try dsimp only at hSw
                    go_simp
                    try with_reducible rfl
                  try simp only [Act.put, List.setIfInBounds_toArray, List.set_cons_zero, List.set_cons_succ]
                  refine wpAnyH_take (i := 5) (oi := { dst := some 35, op := _, type := _, pos := _, after := _, guard := _ }) (v := ?_) rfl (by kernel_rfl) (by kernel_rfl) (by kernel_rfl) (fun _ _ _ h => h) (Or.inl ⟨by rfl, ?_⟩) (by assumption) ?_
                  rotate_left
                  · intro w hSw
                    try dsimp only at hSw
                    go_simp
                    try with_reducible rfl
                  try simp only [Act.put, List.setIfInBounds_toArray, List.set_cons_zero, List.set_cons_succ]
                  refine wpAnyH_take (i := 6) (oi := { dst := some 36, op := _, type := _, pos := _, after := _, guard := _ }) (v := ?_) rfl (by kernel_rfl) (by kernel_rfl) (by kernel_rfl) (fun _ _ _ h => h) (Or.inl ⟨by rfl, ?_⟩) (by assumption) ?_
                  rotate_left
                  · intro w hSw
                    try dsimp only at hSw
                    go_simp
                    try with_reducible rfl
                  try simp only [Act.put, List.setIfInBounds_toArray, List.set_cons_zero, List.set_cons_succ]
                  refine wpAnyH_take (i := 7) (oi := { dst := some 37, op := _, type := _, pos := _, after := _, guard := _ }) (v := ?_) rfl (by kernel_rfl) (by kernel_rfl) (by kernel_rfl) (fun _ _ _ h => h) (Or.inl ⟨by rfl, ?_⟩) (by assumption) ?_
                  rotate_left
                  · intro w hSw
                    try dsimp only at hSw
                    go_simp
                    try with_reducible rfl
                  try simp only [Act.put, List.setIfInBounds_toArray, List.set_cons_zero, List.set_cons_succ]
                  refine wpAnyH_take (i := 9) (oi := { dst := some 39, op := _, type := _, pos := _, after := _, guard := _ }) (v := ?_) rfl (by kernel_rfl) (by kernel_rfl) (by kernel_rfl) (fun _ _ _ h => h) (Or.inl ⟨by rfl, ?_⟩) (by assumption) ?_
                  rotate_left
                  · intro w hSw
                    try dsimp only at hSw
                    go_simp
                    try with_reducible rfl
                  try simp only [Act.put, List.setIfInBounds_toArray, List.set_cons_zero, List.set_cons_succ]
                  refine wpAnyH_ready (rs := [8]) (by kernel_rfl) (by simp) ?_
                  refine AllReadyH.cons rfl (fun K hK => ?_) AllReadyH.nil
                  go_simp
                  refine (HLg.out _ hS.2.2.2.2.2.2.2.2.2.2.2.2.2.2.2.2.out.inv.ok).mono ?_
                  rintro _ v4 ⟨rfl, hb⟩
                  have HP4 := Lib.hid (hS.2.2.2.2.2.2.2.2.2.2.2.2.2.2.2.2.out.step hb)
                  have HB4 := Lib.hid (HBw.out.below hb)
                  clear hb
                  go_wp2_with fail
                  refine hK.out _ _ ?_ (fun hHeld => ?_)
                  · exact HSt.out _ HP4.out
                  clear hK K
                  try simp only [Act.put, List.setIfInBounds_toArray, List.set_cons_zero, List.set_cons_succ]
                  refine wpAnyH_ready (rs := [10]) (by kernel_rfl) (by simp) ?_
                  refine AllReadyH.cons rfl (fun K hK => ?_) AllReadyH.nil
                  go_simp
                  refine (HLd.out _ HP4.out.inv.ok).mono ?_
                  rintro _ v5 ⟨rfl, hb⟩
                  have HP5 := Lib.hid (HP4.out.step hb)
                  have HB5b := Lib.hid (HB4.out.below hb)
                  clear hb
                  go_wp2_with fail
                  refine hK.out _ _ ?_ (fun hHeld => ?_)
                  · exact HSt.out _ HP5.out
                  clear hK K
                  try simp only [Act.put, List.setIfInBounds_toArray, List.set_cons_zero, List.set_cons_succ]
                  refine wpAnyH_take (i := 11) (oi := { dst := some 41, op := _, type := _, pos := _, after := _, guard := _ }) (v := ?_) rfl (by kernel_rfl) (by kernel_rfl) (by kernel_rfl) (fun _ _ _ h => h) (Or.inl ⟨by rfl, ?_⟩) (by assumption) ?_
                  rotate_left
                  · intro w hSw
                    try dsimp only at hSw
                    go_simp
                    try with_reducible rfl
                  try simp only [Act.put, List.setIfInBounds_toArray, List.set_cons_zero, List.set_cons_succ]
                  refine wpAnyH_take (i := 12) (oi := { dst := some 42, op := _, type := _, pos := _, after := _, guard := _ }) (v := ?_) rfl (by kernel_rfl) (by kernel_rfl) (by kernel_rfl) (fun _ _ _ h => h) (Or.inl ⟨by rfl, ?_⟩) (by assumption) ?_
                  rotate_left
                  · intro w hSw
                    try dsimp only at hSw
                    go_simp
                    try with_reducible rfl
                  try simp only [Act.put, List.setIfInBounds_toArray, List.set_cons_zero, List.set_cons_succ]
                  refine wpAnyH_take (i := 13) (oi := { dst := some 43, op := _, type := _, pos := _, after := _, guard := _ }) (v := ?_) rfl (by kernel_rfl) (by kernel_rfl) (by kernel_rfl) (fun _ _ _ h => h) (Or.inl ⟨by rfl, ?_⟩) (by assumption) ?_
                  rotate_left
                  · intro w hSw
                    try dsimp only at hSw
                    go_simp
                    try with_reducible rfl
                  try simp only [Act.put, List.setIfInBounds_toArray, List.set_cons_zero, List.set_cons_succ]
                  refine wpAnyH_done (by kernel_rfl) ?_ _
                  clear hHeld hS S0 HP4 HB4
                  cases z
                  · have HKp := Lib.hid (best_more (g := ⟨(t, s, r), o, id, nm, ak, vl⟩) HCg.out hbest (by rw [HLn.out.1, HLn.out.2]; exact of_decide_eq_false HY.out))
                    go_wp2_with fail
                    go_roundw
                    case rel => exact ⟨i + 1, by omega, by go_num, Lib.hid (by rw [HM.out]; exact ⟨HP5.out.inv.keep HKp.out, HB5b.out⟩)⟩
                    case measure => simp [intOf]; omega
                  · have HNw := Lib.hid (best_less (g := ⟨(t, s, r), o, id, nm, ak, vl⟩) HCg.out hbest (by rw [HLn.out.1, HLn.out.2]; exact of_decide_eq_true HY.out))
                    have b0 : World.cell? (v5) ⟨b7, 0, none⟩ = some (.int .i64 t) := Csn.KbC.cell HP5.out.x7 rfl
                    have b1 : World.cell? (v5) ⟨b7, 1, none⟩ = some (.int .i64 s) := Csn.KbC.cell HP5.out.x7 rfl
                    have b2 : World.cell? (v5) ⟨b7, 2, none⟩ = some (.int .i64 r) := Csn.KbC.cell HP5.out.x7 rfl
                    have b3 : World.cell? (v5) ⟨b7, 3, none⟩ = some (.int .i64 o) := Csn.KbC.cell HP5.out.x7 rfl
                    have b4 : World.cell? (v5) ⟨b7, 4, none⟩ = some (.string id) := Csn.KbC.cell HP5.out.x7 rfl
                    have b5 : World.cell? (v5) ⟨b7, 5, none⟩ = some (.string nm) := Csn.KbC.cell HP5.out.x7 rfl
                    have b6 : World.cell? (v5) ⟨b7, 6, none⟩ = some (.string ak) := Csn.KbC.cell HP5.out.x7 rfl
                    have b7 : World.cell? (v5) ⟨b7, 7, none⟩ = some (.string vl) := Csn.KbC.cell HP5.out.x7 rfl
                    obtain ⟨w5, hrun0, hw5, hg5⟩ := HP5.out.inv.put (g := ⟨(t, s, r), o, id, nm, ak, vl⟩) HO.out (by omega) HSm.out.2 HNw.out
                    have hrun : (Instr.mapUpdate 90 (.map (some mb)) (.agg #[.int .i64 t, .int .i64 s, .int .i64 r]) (.agg #[.int .i64 t, .int .i64 s, .int .i64 r, .int .i64 o, .string id, .string nm, .string ak, .string vl])).run Tryz.prog v5 = .ok () w5 := hrun0
                    have HI5 := Lib.hid hw5
                    have HB5 := Lib.hid (HB5b.out.keptm HP5.out.inv.map hg5)
                    clear hrun0 hw5 hg5
                    go_wp2_with fail
                    go_roundw
                    case rel => exact ⟨i + 1, by omega, by go_num, Lib.hid (by rw [HM.out]; exact ⟨HI5.out, HB5.out⟩)⟩
                    case measure => simp [intOf]; omega
              · have d2_nm : (nm.toList == nm2.toList) = false := by rw [str_eq]; exact decide_eq_false q_nm
                have HPd := Lib.hid (HP0.out.step (Below.refl _ _).drew)
                have S0 := HSt.out _ HPd.out
                have HBw := Lib.hid (HBw.out.below (Below.refl _ _).drew)
                refine wp_region_held_drew (S := fun V => V.cell? ⟨b7, 0, none⟩ = some (.int .i64 t) ∧ V.cell? ⟨b7, 1, none⟩ = some (.int .i64 s) ∧ V.cell? ⟨b7, 2, none⟩ = some (.int .i64 r) ∧ V.cell? ⟨b7, 3, none⟩ = some (.int .i64 o) ∧ V.cell? ⟨b7, 4, none⟩ = some (.string id) ∧ V.cell? ⟨b7, 5, none⟩ = some (.string nm) ∧ V.cell? ⟨b7, 6, none⟩ = some (.string ak) ∧ V.cell? ⟨b7, 7, none⟩ = some (.string vl) ∧ V.cell? ⟨b8, 0, none⟩ = some (.int .i64 t) ∧ V.cell? ⟨b8, 1, none⟩ = some (.int .i64 s) ∧ V.cell? ⟨b8, 2, none⟩ = some (.int .i64 r) ∧ V.cell? ⟨b8, 3, none⟩ = some (.int .i64 o) ∧ V.cell? ⟨b8, 4, none⟩ = some (.string id) ∧ V.cell? ⟨b8, 5, none⟩ = some (.string nm2) ∧ V.cell? ⟨b8, 6, none⟩ = some (.string ak2) ∧ V.cell? ⟨b8, 7, none⟩ = some (.string vl2) ∧ Hid (PxI w mb L i b7 ⟨(t, s, r), o, id, nm, ak, vl⟩ b8 ⟨(t, s, r), o, id, nm2, ak2, vl2⟩ V)) (by kernel_rfl) (S0) (fun hS => ?_)
                refine wpAnyH_take (i := 0) (oi := { dst := some 30, op := _, type := _, pos := _, after := _, guard := _ }) (v := ?_) rfl (by kernel_rfl) (by kernel_rfl) (by kernel_rfl) (fun _ _ _ h => h) (Or.inl ⟨by rfl, ?_⟩) (by assumption) ?_
                rotate_left
                · intro w hSw
                  try dsimp only at hSw
                  go_simp
                  try with_reducible rfl
                try simp only [Act.put, List.setIfInBounds_toArray, List.set_cons_zero, List.set_cons_succ]
                refine wpAnyH_take (i := 1) (oi := { dst := some 31, op := _, type := _, pos := _, after := _, guard := _ }) (v := ?_) rfl (by kernel_rfl) (by kernel_rfl) (by kernel_rfl) (fun _ _ _ h => h) (Or.inl ⟨by rfl, ?_⟩) (by assumption) ?_
                rotate_left
                · intro w hSw
                  try dsimp only at hSw
                  go_simp
                  try with_reducible rfl
                try simp only [Act.put, List.setIfInBounds_toArray, List.set_cons_zero, List.set_cons_succ]
                refine wpAnyH_take (i := 2) (oi := { dst := some 32, op := _, type := _, pos := _, after := _, guard := _ }) (v := ?_) rfl (by kernel_rfl) (by kernel_rfl) (by kernel_rfl) (fun _ _ _ h => h) (Or.inl ⟨by rfl, ?_⟩) (by assumption) ?_
                rotate_left
                · intro w hSw
                  try dsimp only at hSw
                  go_simp
                  try with_reducible rfl
                try simp only [Act.put, List.setIfInBounds_toArray, List.set_cons_zero, List.set_cons_succ]
                refine wpAnyH_take (i := 3) (oi := { dst := some 33, op := _, type := _, pos := _, after := _, guard := _ }) (v := ?_) rfl (by kernel_rfl) (by kernel_rfl) (by kernel_rfl) (fun _ _ _ h => h) (Or.inl ⟨by rfl, ?_⟩) (by assumption) ?_
                rotate_left
                · intro w hSw
                  try dsimp only at hSw
                  go_simp
                  try with_reducible rfl
                try simp only [Act.put, List.setIfInBounds_toArray, List.set_cons_zero, List.set_cons_succ]
                refine wpAnyH_take (i := 4) (oi := { dst := some 34, op := _, type := _, pos := _, after := _, guard := _ }) (v := ?_) rfl (by kernel_rfl) (by kernel_rfl) (by kernel_rfl) (fun _ _ _ h => h) (Or.inl ⟨by rfl, ?_⟩) (by assumption) ?_
                rotate_left
                · intro w hSw
                  try dsimp only at hSw
                  go_simp
                  try with_reducible rfl
                try simp only [Act.put, List.setIfInBounds_toArray, List.set_cons_zero, List.set_cons_succ]
                refine wpAnyH_take (i := 5) (oi := { dst := some 35, op := _, type := _, pos := _, after := _, guard := _ }) (v := ?_) rfl (by kernel_rfl) (by kernel_rfl) (by kernel_rfl) (fun _ _ _ h => h) (Or.inl ⟨by rfl, ?_⟩) (by assumption) ?_
                rotate_left
                · intro w hSw
                  try dsimp only at hSw
                  go_simp
                  try with_reducible rfl
                try simp only [Act.put, List.setIfInBounds_toArray, List.set_cons_zero, List.set_cons_succ]
                refine wpAnyH_take (i := 6) (oi := { dst := some 36, op := _, type := _, pos := _, after := _, guard := _ }) (v := ?_) rfl (by kernel_rfl) (by kernel_rfl) (by kernel_rfl) (fun _ _ _ h => h) (Or.inl ⟨by rfl, ?_⟩) (by assumption) ?_
                rotate_left
                · intro w hSw
                  try dsimp only at hSw
                  go_simp
                  try with_reducible rfl
                try simp only [Act.put, List.setIfInBounds_toArray, List.set_cons_zero, List.set_cons_succ]
                refine wpAnyH_take (i := 7) (oi := { dst := some 37, op := _, type := _, pos := _, after := _, guard := _ }) (v := ?_) rfl (by kernel_rfl) (by kernel_rfl) (by kernel_rfl) (fun _ _ _ h => h) (Or.inl ⟨by rfl, ?_⟩) (by assumption) ?_
                rotate_left
                · intro w hSw
                  try dsimp only at hSw
                  go_simp
                  try with_reducible rfl
                try simp only [Act.put, List.setIfInBounds_toArray, List.set_cons_zero, List.set_cons_succ]
                refine wpAnyH_take (i := 9) (oi := { dst := some 39, op := _, type := _, pos := _, after := _, guard := _ }) (v := ?_) rfl (by kernel_rfl) (by kernel_rfl) (by kernel_rfl) (fun _ _ _ h => h) (Or.inl ⟨by rfl, ?_⟩) (by assumption) ?_
                rotate_left
                · intro w hSw
                  try dsimp only at hSw
                  go_simp
                  try with_reducible rfl
                try simp only [Act.put, List.setIfInBounds_toArray, List.set_cons_zero, List.set_cons_succ]
                refine wpAnyH_ready (rs := [8]) (by kernel_rfl) (by simp) ?_
                refine AllReadyH.cons rfl (fun K hK => ?_) AllReadyH.nil
                go_simp
                refine (HLg.out _ hS.2.2.2.2.2.2.2.2.2.2.2.2.2.2.2.2.out.inv.ok).mono ?_
                rintro _ v4 ⟨rfl, hb⟩
                have HP4 := Lib.hid (hS.2.2.2.2.2.2.2.2.2.2.2.2.2.2.2.2.out.step hb)
                have HB4 := Lib.hid (HBw.out.below hb)
                clear hb
                go_wp2_with fail
                refine hK.out _ _ ?_ (fun hHeld => ?_)
                · exact HSt.out _ HP4.out
                clear hK K
                try simp only [Act.put, List.setIfInBounds_toArray, List.set_cons_zero, List.set_cons_succ]
                refine wpAnyH_ready (rs := [10]) (by kernel_rfl) (by simp) ?_
                refine AllReadyH.cons rfl (fun K hK => ?_) AllReadyH.nil
                go_simp
                refine (HLd.out _ HP4.out.inv.ok).mono ?_
                rintro _ v5 ⟨rfl, hb⟩
                have HP5 := Lib.hid (HP4.out.step hb)
                have HB5b := Lib.hid (HB4.out.below hb)
                clear hb
                go_wp2_with fail
                refine hK.out _ _ ?_ (fun hHeld => ?_)
                · exact HSt.out _ HP5.out
                clear hK K
                try simp only [Act.put, List.setIfInBounds_toArray, List.set_cons_zero, List.set_cons_succ]
                refine wpAnyH_take (i := 11) (oi := { dst := some 41, op := _, type := _, pos := _, after := _, guard := _ }) (v := ?_) rfl (by kernel_rfl) (by kernel_rfl) (by kernel_rfl) (fun _ _ _ h => h) (Or.inl ⟨by rfl, ?_⟩) (by assumption) ?_
                rotate_left
                · intro w hSw
                  try dsimp only at hSw
                  go_simp
                  try with_reducible rfl
                try simp only [Act.put, List.setIfInBounds_toArray, List.set_cons_zero, List.set_cons_succ]
                refine wpAnyH_take (i := 12) (oi := { dst := some 42, op := _, type := _, pos := _, after := _, guard := _ }) (v := ?_) rfl (by kernel_rfl) (by kernel_rfl) (by kernel_rfl) (fun _ _ _ h => h) (Or.inl ⟨by rfl, ?_⟩) (by assumption) ?_
                rotate_left
                · intro w hSw
                  try dsimp only at hSw
                  go_simp
                  try with_reducible rfl
                try simp only [Act.put, List.setIfInBounds_toArray, List.set_cons_zero, List.set_cons_succ]
                refine wpAnyH_take (i := 13) (oi := { dst := some 43, op := _, type := _, pos := _, after := _, guard := _ }) (v := ?_) rfl (by kernel_rfl) (by kernel_rfl) (by kernel_rfl) (fun _ _ _ h => h) (Or.inl ⟨by rfl, ?_⟩) (by assumption) ?_
                rotate_left
                · intro w hSw
                  try dsimp only at hSw
                  go_simp
                  try with_reducible rfl
                try simp only [Act.put, List.setIfInBounds_toArray, List.set_cons_zero, List.set_cons_succ]
                refine wpAnyH_done (by kernel_rfl) ?_ _
                clear hHeld hS S0 HP4 HB4
                cases z
                · have HKp := Lib.hid (best_more (g := ⟨(t, s, r), o, id, nm, ak, vl⟩) HCg.out hbest (by rw [HLn.out.1, HLn.out.2]; exact of_decide_eq_false HY.out))
                  go_wp2_with fail
                  go_roundw
                  case rel => exact ⟨i + 1, by omega, by go_num, Lib.hid (by rw [HM.out]; exact ⟨HP5.out.inv.keep HKp.out, HB5b.out⟩)⟩
                  case measure => simp [intOf]; omega
                · have HNw := Lib.hid (best_less (g := ⟨(t, s, r), o, id, nm, ak, vl⟩) HCg.out hbest (by rw [HLn.out.1, HLn.out.2]; exact of_decide_eq_true HY.out))
                  have b0 : World.cell? (v5) ⟨b7, 0, none⟩ = some (.int .i64 t) := Csn.KbC.cell HP5.out.x7 rfl
                  have b1 : World.cell? (v5) ⟨b7, 1, none⟩ = some (.int .i64 s) := Csn.KbC.cell HP5.out.x7 rfl
                  have b2 : World.cell? (v5) ⟨b7, 2, none⟩ = some (.int .i64 r) := Csn.KbC.cell HP5.out.x7 rfl
                  have b3 : World.cell? (v5) ⟨b7, 3, none⟩ = some (.int .i64 o) := Csn.KbC.cell HP5.out.x7 rfl
                  have b4 : World.cell? (v5) ⟨b7, 4, none⟩ = some (.string id) := Csn.KbC.cell HP5.out.x7 rfl
                  have b5 : World.cell? (v5) ⟨b7, 5, none⟩ = some (.string nm) := Csn.KbC.cell HP5.out.x7 rfl
                  have b6 : World.cell? (v5) ⟨b7, 6, none⟩ = some (.string ak) := Csn.KbC.cell HP5.out.x7 rfl
                  have b7 : World.cell? (v5) ⟨b7, 7, none⟩ = some (.string vl) := Csn.KbC.cell HP5.out.x7 rfl
                  obtain ⟨w5, hrun0, hw5, hg5⟩ := HP5.out.inv.put (g := ⟨(t, s, r), o, id, nm, ak, vl⟩) HO.out (by omega) HSm.out.2 HNw.out
                  have hrun : (Instr.mapUpdate 90 (.map (some mb)) (.agg #[.int .i64 t, .int .i64 s, .int .i64 r]) (.agg #[.int .i64 t, .int .i64 s, .int .i64 r, .int .i64 o, .string id, .string nm, .string ak, .string vl])).run Tryz.prog v5 = .ok () w5 := hrun0
                  have HI5 := Lib.hid hw5
                  have HB5 := Lib.hid (HB5b.out.keptm HP5.out.inv.map hg5)
                  clear hrun0 hw5 hg5
                  go_wp2_with fail
                  go_roundw
                  case rel => exact ⟨i + 1, by omega, by go_num, Lib.hid (by rw [HM.out]; exact ⟨HI5.out, HB5.out⟩)⟩
                  case measure => simp [intOf]; omega
            · have d2_id : (id.toList == id2.toList) = false := by rw [str_eq]; exact decide_eq_false q_id
              have HPd := Lib.hid (HP0.out.step (Below.refl _ _).drew)
              have S0 := HSt.out _ HPd.out
              have HBw := Lib.hid (HBw.out.below (Below.refl _ _).drew)
              refine wp_region_held_drew (S := fun V => V.cell? ⟨b7, 0, none⟩ = some (.int .i64 t) ∧ V.cell? ⟨b7, 1, none⟩ = some (.int .i64 s) ∧ V.cell? ⟨b7, 2, none⟩ = some (.int .i64 r) ∧ V.cell? ⟨b7, 3, none⟩ = some (.int .i64 o) ∧ V.cell? ⟨b7, 4, none⟩ = some (.string id) ∧ V.cell? ⟨b7, 5, none⟩ = some (.string nm) ∧ V.cell? ⟨b7, 6, none⟩ = some (.string ak) ∧ V.cell? ⟨b7, 7, none⟩ = some (.string vl) ∧ V.cell? ⟨b8, 0, none⟩ = some (.int .i64 t) ∧ V.cell? ⟨b8, 1, none⟩ = some (.int .i64 s) ∧ V.cell? ⟨b8, 2, none⟩ = some (.int .i64 r) ∧ V.cell? ⟨b8, 3, none⟩ = some (.int .i64 o) ∧ V.cell? ⟨b8, 4, none⟩ = some (.string id2) ∧ V.cell? ⟨b8, 5, none⟩ = some (.string nm2) ∧ V.cell? ⟨b8, 6, none⟩ = some (.string ak2) ∧ V.cell? ⟨b8, 7, none⟩ = some (.string vl2) ∧ Hid (PxI w mb L i b7 ⟨(t, s, r), o, id, nm, ak, vl⟩ b8 ⟨(t, s, r), o, id2, nm2, ak2, vl2⟩ V)) (by kernel_rfl) (S0) (fun hS => ?_)
              refine wpAnyH_take (i := 0) (oi := { dst := some 30, op := _, type := _, pos := _, after := _, guard := _ }) (v := ?_) rfl (by kernel_rfl) (by kernel_rfl) (by kernel_rfl) (fun _ _ _ h => h) (Or.inl ⟨by rfl, ?_⟩) (by assumption) ?_
              rotate_left
              · intro w hSw
                try dsimp only at hSw
                go_simp
                try with_reducible rfl
              try simp only [Act.put, List.setIfInBounds_toArray, List.set_cons_zero, List.set_cons_succ]
              refine wpAnyH_take (i := 1) (oi := { dst := some 31, op := _, type := _, pos := _, after := _, guard := _ }) (v := ?_) rfl (by kernel_rfl) (by kernel_rfl) (by kernel_rfl) (fun _ _ _ h => h) (Or.inl ⟨by rfl, ?_⟩) (by assumption) ?_
              rotate_left
              · intro w hSw
                try dsimp only at hSw
                go_simp
                try with_reducible rfl
              try simp only [Act.put, List.setIfInBounds_toArray, List.set_cons_zero, List.set_cons_succ]
              refine wpAnyH_take (i := 2) (oi := { dst := some 32, op := _, type := _, pos := _, after := _, guard := _ }) (v := ?_) rfl (by kernel_rfl) (by kernel_rfl) (by kernel_rfl) (fun _ _ _ h => h) (Or.inl ⟨by rfl, ?_⟩) (by assumption) ?_
              rotate_left
              · intro w hSw
                try dsimp only at hSw
                go_simp
                try with_reducible rfl
              try simp only [Act.put, List.setIfInBounds_toArray, List.set_cons_zero, List.set_cons_succ]
              refine wpAnyH_take (i := 3) (oi := { dst := some 33, op := _, type := _, pos := _, after := _, guard := _ }) (v := ?_) rfl (by kernel_rfl) (by kernel_rfl) (by kernel_rfl) (fun _ _ _ h => h) (Or.inl ⟨by rfl, ?_⟩) (by assumption) ?_
              rotate_left
              · intro w hSw
                try dsimp only at hSw
                go_simp
                try with_reducible rfl
              try simp only [Act.put, List.setIfInBounds_toArray, List.set_cons_zero, List.set_cons_succ]
              refine wpAnyH_take (i := 4) (oi := { dst := some 34, op := _, type := _, pos := _, after := _, guard := _ }) (v := ?_) rfl (by kernel_rfl) (by kernel_rfl) (by kernel_rfl) (fun _ _ _ h => h) (Or.inl ⟨by rfl, ?_⟩) (by assumption) ?_
              rotate_left
              · intro w hSw
                try dsimp only at hSw
                go_simp
                try with_reducible rfl
              try simp only [Act.put, List.setIfInBounds_toArray, List.set_cons_zero, List.set_cons_succ]
              refine wpAnyH_take (i := 5) (oi := { dst := some 35, op := _, type := _, pos := _, after := _, guard := _ }) (v := ?_) rfl (by kernel_rfl) (by kernel_rfl) (by kernel_rfl) (fun _ _ _ h => h) (Or.inl ⟨by rfl, ?_⟩) (by assumption) ?_
              rotate_left
              · intro w hSw
                try dsimp only at hSw
                go_simp
                try with_reducible rfl
              try simp only [Act.put, List.setIfInBounds_toArray, List.set_cons_zero, List.set_cons_succ]
              refine wpAnyH_take (i := 6) (oi := { dst := some 36, op := _, type := _, pos := _, after := _, guard := _ }) (v := ?_) rfl (by kernel_rfl) (by kernel_rfl) (by kernel_rfl) (fun _ _ _ h => h) (Or.inl ⟨by rfl, ?_⟩) (by assumption) ?_
              rotate_left
              · intro w hSw
                try dsimp only at hSw
                go_simp
                try with_reducible rfl
              try simp only [Act.put, List.setIfInBounds_toArray, List.set_cons_zero, List.set_cons_succ]
              refine wpAnyH_take (i := 7) (oi := { dst := some 37, op := _, type := _, pos := _, after := _, guard := _ }) (v := ?_) rfl (by kernel_rfl) (by kernel_rfl) (by kernel_rfl) (fun _ _ _ h => h) (Or.inl ⟨by rfl, ?_⟩) (by assumption) ?_
              rotate_left
              · intro w hSw
                try dsimp only at hSw
                go_simp
                try with_reducible rfl
              try simp only [Act.put, List.setIfInBounds_toArray, List.set_cons_zero, List.set_cons_succ]
              refine wpAnyH_take (i := 9) (oi := { dst := some 39, op := _, type := _, pos := _, after := _, guard := _ }) (v := ?_) rfl (by kernel_rfl) (by kernel_rfl) (by kernel_rfl) (fun _ _ _ h => h) (Or.inl ⟨by rfl, ?_⟩) (by assumption) ?_
              rotate_left
              · intro w hSw
                try dsimp only at hSw
                go_simp
                try with_reducible rfl
              try simp only [Act.put, List.setIfInBounds_toArray, List.set_cons_zero, List.set_cons_succ]
              refine wpAnyH_ready (rs := [8]) (by kernel_rfl) (by simp) ?_
              refine AllReadyH.cons rfl (fun K hK => ?_) AllReadyH.nil
              go_simp
              refine (HLg.out _ hS.2.2.2.2.2.2.2.2.2.2.2.2.2.2.2.2.out.inv.ok).mono ?_
              rintro _ v4 ⟨rfl, hb⟩
              have HP4 := Lib.hid (hS.2.2.2.2.2.2.2.2.2.2.2.2.2.2.2.2.out.step hb)
              have HB4 := Lib.hid (HBw.out.below hb)
              clear hb
              go_wp2_with fail
              refine hK.out _ _ ?_ (fun hHeld => ?_)
              · exact HSt.out _ HP4.out
              clear hK K
              try simp only [Act.put, List.setIfInBounds_toArray, List.set_cons_zero, List.set_cons_succ]
              refine wpAnyH_ready (rs := [10]) (by kernel_rfl) (by simp) ?_
              refine AllReadyH.cons rfl (fun K hK => ?_) AllReadyH.nil
              go_simp
              refine (HLd.out _ HP4.out.inv.ok).mono ?_
              rintro _ v5 ⟨rfl, hb⟩
              have HP5 := Lib.hid (HP4.out.step hb)
              have HB5b := Lib.hid (HB4.out.below hb)
              clear hb
              go_wp2_with fail
              refine hK.out _ _ ?_ (fun hHeld => ?_)
              · exact HSt.out _ HP5.out
              clear hK K
              try simp only [Act.put, List.setIfInBounds_toArray, List.set_cons_zero, List.set_cons_succ]
              refine wpAnyH_take (i := 11) (oi := { dst := some 41, op := _, type := _, pos := _, after := _, guard := _ }) (v := ?_) rfl (by kernel_rfl) (by kernel_rfl) (by kernel_rfl) (fun _ _ _ h => h) (Or.inl ⟨by rfl, ?_⟩) (by assumption) ?_
              rotate_left
              · intro w hSw
                try dsimp only at hSw
                go_simp
                try with_reducible rfl
              try simp only [Act.put, List.setIfInBounds_toArray, List.set_cons_zero, List.set_cons_succ]
              refine wpAnyH_take (i := 12) (oi := { dst := some 42, op := _, type := _, pos := _, after := _, guard := _ }) (v := ?_) rfl (by kernel_rfl) (by kernel_rfl) (by kernel_rfl) (fun _ _ _ h => h) (Or.inl ⟨by rfl, ?_⟩) (by assumption) ?_
              rotate_left
              · intro w hSw
                try dsimp only at hSw
                go_simp
                try with_reducible rfl
              try simp only [Act.put, List.setIfInBounds_toArray, List.set_cons_zero, List.set_cons_succ]
              refine wpAnyH_take (i := 13) (oi := { dst := some 43, op := _, type := _, pos := _, after := _, guard := _ }) (v := ?_) rfl (by kernel_rfl) (by kernel_rfl) (by kernel_rfl) (fun _ _ _ h => h) (Or.inl ⟨by rfl, ?_⟩) (by assumption) ?_
              rotate_left
              · intro w hSw
                try dsimp only at hSw
                go_simp
                try with_reducible rfl
              try simp only [Act.put, List.setIfInBounds_toArray, List.set_cons_zero, List.set_cons_succ]
              refine wpAnyH_done (by kernel_rfl) ?_ _
              clear hHeld hS S0 HP4 HB4
              cases z
              · have HKp := Lib.hid (best_more (g := ⟨(t, s, r), o, id, nm, ak, vl⟩) HCg.out hbest (by rw [HLn.out.1, HLn.out.2]; exact of_decide_eq_false HY.out))
                go_wp2_with fail
                go_roundw
                case rel => exact ⟨i + 1, by omega, by go_num, Lib.hid (by rw [HM.out]; exact ⟨HP5.out.inv.keep HKp.out, HB5b.out⟩)⟩
                case measure => simp [intOf]; omega
              · have HNw := Lib.hid (best_less (g := ⟨(t, s, r), o, id, nm, ak, vl⟩) HCg.out hbest (by rw [HLn.out.1, HLn.out.2]; exact of_decide_eq_true HY.out))
                have b0 : World.cell? (v5) ⟨b7, 0, none⟩ = some (.int .i64 t) := Csn.KbC.cell HP5.out.x7 rfl
                have b1 : World.cell? (v5) ⟨b7, 1, none⟩ = some (.int .i64 s) := Csn.KbC.cell HP5.out.x7 rfl
                have b2 : World.cell? (v5) ⟨b7, 2, none⟩ = some (.int .i64 r) := Csn.KbC.cell HP5.out.x7 rfl
                have b3 : World.cell? (v5) ⟨b7, 3, none⟩ = some (.int .i64 o) := Csn.KbC.cell HP5.out.x7 rfl
                have b4 : World.cell? (v5) ⟨b7, 4, none⟩ = some (.string id) := Csn.KbC.cell HP5.out.x7 rfl
                have b5 : World.cell? (v5) ⟨b7, 5, none⟩ = some (.string nm) := Csn.KbC.cell HP5.out.x7 rfl
                have b6 : World.cell? (v5) ⟨b7, 6, none⟩ = some (.string ak) := Csn.KbC.cell HP5.out.x7 rfl
                have b7 : World.cell? (v5) ⟨b7, 7, none⟩ = some (.string vl) := Csn.KbC.cell HP5.out.x7 rfl
                obtain ⟨w5, hrun0, hw5, hg5⟩ := HP5.out.inv.put (g := ⟨(t, s, r), o, id, nm, ak, vl⟩) HO.out (by omega) HSm.out.2 HNw.out
                have hrun : (Instr.mapUpdate 90 (.map (some mb)) (.agg #[.int .i64 t, .int .i64 s, .int .i64 r]) (.agg #[.int .i64 t, .int .i64 s, .int .i64 r, .int .i64 o, .string id, .string nm, .string ak, .string vl])).run Tryz.prog v5 = .ok () w5 := hrun0
                have HI5 := Lib.hid hw5
                have HB5 := Lib.hid (HB5b.out.keptm HP5.out.inv.map hg5)
                clear hrun0 hw5 hg5
                go_wp2_with fail
                go_roundw
                case rel => exact ⟨i + 1, by omega, by go_num, Lib.hid (by rw [HM.out]; exact ⟨HI5.out, HB5.out⟩)⟩
                case measure => simp [intOf]; omega
          · have d_o : (o == o2) = false := by simpa using q_o
            have HPd := Lib.hid (HP0.out.step (Below.refl _ _).drew)
            have S0 := HSt.out _ HPd.out
            have HBw := Lib.hid (HBw.out.below (Below.refl _ _).drew)
            refine wp_region_held_drew (S := fun V => V.cell? ⟨b7, 0, none⟩ = some (.int .i64 t) ∧ V.cell? ⟨b7, 1, none⟩ = some (.int .i64 s) ∧ V.cell? ⟨b7, 2, none⟩ = some (.int .i64 r) ∧ V.cell? ⟨b7, 3, none⟩ = some (.int .i64 o) ∧ V.cell? ⟨b7, 4, none⟩ = some (.string id) ∧ V.cell? ⟨b7, 5, none⟩ = some (.string nm) ∧ V.cell? ⟨b7, 6, none⟩ = some (.string ak) ∧ V.cell? ⟨b7, 7, none⟩ = some (.string vl) ∧ V.cell? ⟨b8, 0, none⟩ = some (.int .i64 t) ∧ V.cell? ⟨b8, 1, none⟩ = some (.int .i64 s) ∧ V.cell? ⟨b8, 2, none⟩ = some (.int .i64 r) ∧ V.cell? ⟨b8, 3, none⟩ = some (.int .i64 o2) ∧ V.cell? ⟨b8, 4, none⟩ = some (.string id2) ∧ V.cell? ⟨b8, 5, none⟩ = some (.string nm2) ∧ V.cell? ⟨b8, 6, none⟩ = some (.string ak2) ∧ V.cell? ⟨b8, 7, none⟩ = some (.string vl2) ∧ Hid (PxI w mb L i b7 ⟨(t, s, r), o, id, nm, ak, vl⟩ b8 ⟨(t, s, r), o2, id2, nm2, ak2, vl2⟩ V)) (by kernel_rfl) (S0) (fun hS => ?_)
            refine wpAnyH_take (i := 0) (oi := { dst := some 30, op := _, type := _, pos := _, after := _, guard := _ }) (v := ?_) rfl (by kernel_rfl) (by kernel_rfl) (by kernel_rfl) (fun _ _ _ h => h) (Or.inl ⟨by rfl, ?_⟩) (by assumption) ?_
            rotate_left
            · intro w hSw
              try dsimp only at hSw
              go_simp
              try with_reducible rfl
            try simp only [Act.put, List.setIfInBounds_toArray, List.set_cons_zero, List.set_cons_succ]
            refine wpAnyH_take (i := 1) (oi := { dst := some 31, op := _, type := _, pos := _, after := _, guard := _ }) (v := ?_) rfl (by kernel_rfl) (by kernel_rfl) (by kernel_rfl) (fun _ _ _ h => h) (Or.inl ⟨by rfl, ?_⟩) (by assumption) ?_
            rotate_left
            · intro w hSw
              try dsimp only at hSw
              go_simp
              try with_reducible rfl
            try simp only [Act.put, List.setIfInBounds_toArray, List.set_cons_zero, List.set_cons_succ]
            refine wpAnyH_take (i := 2) (oi := { dst := some 32, op := _, type := _, pos := _, after := _, guard := _ }) (v := ?_) rfl (by kernel_rfl) (by kernel_rfl) (by kernel_rfl) (fun _ _ _ h => h) (Or.inl ⟨by rfl, ?_⟩) (by assumption) ?_
            rotate_left
            · intro w hSw
              try dsimp only at hSw
              go_simp
              try with_reducible rfl
            try simp only [Act.put, List.setIfInBounds_toArray, List.set_cons_zero, List.set_cons_succ]
            refine wpAnyH_take (i := 3) (oi := { dst := some 33, op := _, type := _, pos := _, after := _, guard := _ }) (v := ?_) rfl (by kernel_rfl) (by kernel_rfl) (by kernel_rfl) (fun _ _ _ h => h) (Or.inl ⟨by rfl, ?_⟩) (by assumption) ?_
            rotate_left
            · intro w hSw
              try dsimp only at hSw
              go_simp
              try with_reducible rfl
            try simp only [Act.put, List.setIfInBounds_toArray, List.set_cons_zero, List.set_cons_succ]
            refine wpAnyH_take (i := 4) (oi := { dst := some 34, op := _, type := _, pos := _, after := _, guard := _ }) (v := ?_) rfl (by kernel_rfl) (by kernel_rfl) (by kernel_rfl) (fun _ _ _ h => h) (Or.inl ⟨by rfl, ?_⟩) (by assumption) ?_
            rotate_left
            · intro w hSw
              try dsimp only at hSw
              go_simp
              try with_reducible rfl
            try simp only [Act.put, List.setIfInBounds_toArray, List.set_cons_zero, List.set_cons_succ]
            refine wpAnyH_take (i := 5) (oi := { dst := some 35, op := _, type := _, pos := _, after := _, guard := _ }) (v := ?_) rfl (by kernel_rfl) (by kernel_rfl) (by kernel_rfl) (fun _ _ _ h => h) (Or.inl ⟨by rfl, ?_⟩) (by assumption) ?_
            rotate_left
            · intro w hSw
              try dsimp only at hSw
              go_simp
              try with_reducible rfl
            try simp only [Act.put, List.setIfInBounds_toArray, List.set_cons_zero, List.set_cons_succ]
            refine wpAnyH_take (i := 6) (oi := { dst := some 36, op := _, type := _, pos := _, after := _, guard := _ }) (v := ?_) rfl (by kernel_rfl) (by kernel_rfl) (by kernel_rfl) (fun _ _ _ h => h) (Or.inl ⟨by rfl, ?_⟩) (by assumption) ?_
            rotate_left
            · intro w hSw
              try dsimp only at hSw
              go_simp
              try with_reducible rfl
            try simp only [Act.put, List.setIfInBounds_toArray, List.set_cons_zero, List.set_cons_succ]
            refine wpAnyH_take (i := 7) (oi := { dst := some 37, op := _, type := _, pos := _, after := _, guard := _ }) (v := ?_) rfl (by kernel_rfl) (by kernel_rfl) (by kernel_rfl) (fun _ _ _ h => h) (Or.inl ⟨by rfl, ?_⟩) (by assumption) ?_
            rotate_left
            · intro w hSw
              try dsimp only at hSw
              go_simp
              try with_reducible rfl
            try simp only [Act.put, List.setIfInBounds_toArray, List.set_cons_zero, List.set_cons_succ]
            refine wpAnyH_take (i := 9) (oi := { dst := some 39, op := _, type := _, pos := _, after := _, guard := _ }) (v := ?_) rfl (by kernel_rfl) (by kernel_rfl) (by kernel_rfl) (fun _ _ _ h => h) (Or.inl ⟨by rfl, ?_⟩) (by assumption) ?_
            rotate_left
            · intro w hSw
              try dsimp only at hSw
              go_simp
              try with_reducible rfl
            try simp only [Act.put, List.setIfInBounds_toArray, List.set_cons_zero, List.set_cons_succ]
            refine wpAnyH_ready (rs := [8]) (by kernel_rfl) (by simp) ?_
            refine AllReadyH.cons rfl (fun K hK => ?_) AllReadyH.nil
            go_simp
            refine (HLg.out _ hS.2.2.2.2.2.2.2.2.2.2.2.2.2.2.2.2.out.inv.ok).mono ?_
            rintro _ v4 ⟨rfl, hb⟩
            have HP4 := Lib.hid (hS.2.2.2.2.2.2.2.2.2.2.2.2.2.2.2.2.out.step hb)
            have HB4 := Lib.hid (HBw.out.below hb)
            clear hb
            go_wp2_with fail
            refine hK.out _ _ ?_ (fun hHeld => ?_)
            · exact HSt.out _ HP4.out
            clear hK K
            try simp only [Act.put, List.setIfInBounds_toArray, List.set_cons_zero, List.set_cons_succ]
            refine wpAnyH_ready (rs := [10]) (by kernel_rfl) (by simp) ?_
            refine AllReadyH.cons rfl (fun K hK => ?_) AllReadyH.nil
            go_simp
            refine (HLd.out _ HP4.out.inv.ok).mono ?_
            rintro _ v5 ⟨rfl, hb⟩
            have HP5 := Lib.hid (HP4.out.step hb)
            have HB5b := Lib.hid (HB4.out.below hb)
            clear hb
            go_wp2_with fail
            refine hK.out _ _ ?_ (fun hHeld => ?_)
            · exact HSt.out _ HP5.out
            clear hK K
            try simp only [Act.put, List.setIfInBounds_toArray, List.set_cons_zero, List.set_cons_succ]
            refine wpAnyH_take (i := 11) (oi := { dst := some 41, op := _, type := _, pos := _, after := _, guard := _ }) (v := ?_) rfl (by kernel_rfl) (by kernel_rfl) (by kernel_rfl) (fun _ _ _ h => h) (Or.inl ⟨by rfl, ?_⟩) (by assumption) ?_
            rotate_left
            · intro w hSw
              try dsimp only at hSw
              go_simp
              try with_reducible rfl
            try simp only [Act.put, List.setIfInBounds_toArray, List.set_cons_zero, List.set_cons_succ]
            refine wpAnyH_take (i := 12) (oi := { dst := some 42, op := _, type := _, pos := _, after := _, guard := _ }) (v := ?_) rfl (by kernel_rfl) (by kernel_rfl) (by kernel_rfl) (fun _ _ _ h => h) (Or.inl ⟨by rfl, ?_⟩) (by assumption) ?_
            rotate_left
            · intro w hSw
              try dsimp only at hSw
              go_simp
              try with_reducible rfl
            try simp only [Act.put, List.setIfInBounds_toArray, List.set_cons_zero, List.set_cons_succ]
            refine wpAnyH_take (i := 13) (oi := { dst := some 43, op := _, type := _, pos := _, after := _, guard := _ }) (v := ?_) rfl (by kernel_rfl) (by kernel_rfl) (by kernel_rfl) (fun _ _ _ h => h) (Or.inl ⟨by rfl, ?_⟩) (by assumption) ?_
            rotate_left
            · intro w hSw
              try dsimp only at hSw
              go_simp
              try with_reducible rfl
            try simp only [Act.put, List.setIfInBounds_toArray, List.set_cons_zero, List.set_cons_succ]
            refine wpAnyH_done (by kernel_rfl) ?_ _
            clear hHeld hS S0 HP4 HB4
            cases z
            · have HKp := Lib.hid (best_more (g := ⟨(t, s, r), o, id, nm, ak, vl⟩) HCg.out hbest (by rw [HLn.out.1, HLn.out.2]; exact of_decide_eq_false HY.out))
              go_wp2_with fail
              go_roundw
              case rel => exact ⟨i + 1, by omega, by go_num, Lib.hid (by rw [HM.out]; exact ⟨HP5.out.inv.keep HKp.out, HB5b.out⟩)⟩
              case measure => simp [intOf]; omega
            · have HNw := Lib.hid (best_less (g := ⟨(t, s, r), o, id, nm, ak, vl⟩) HCg.out hbest (by rw [HLn.out.1, HLn.out.2]; exact of_decide_eq_true HY.out))
              have b0 : World.cell? (v5) ⟨b7, 0, none⟩ = some (.int .i64 t) := Csn.KbC.cell HP5.out.x7 rfl
              have b1 : World.cell? (v5) ⟨b7, 1, none⟩ = some (.int .i64 s) := Csn.KbC.cell HP5.out.x7 rfl
              have b2 : World.cell? (v5) ⟨b7, 2, none⟩ = some (.int .i64 r) := Csn.KbC.cell HP5.out.x7 rfl
              have b3 : World.cell? (v5) ⟨b7, 3, none⟩ = some (.int .i64 o) := Csn.KbC.cell HP5.out.x7 rfl
              have b4 : World.cell? (v5) ⟨b7, 4, none⟩ = some (.string id) := Csn.KbC.cell HP5.out.x7 rfl
              have b5 : World.cell? (v5) ⟨b7, 5, none⟩ = some (.string nm) := Csn.KbC.cell HP5.out.x7 rfl
              have b6 : World.cell? (v5) ⟨b7, 6, none⟩ = some (.string ak) := Csn.KbC.cell HP5.out.x7 rfl
              have b7 : World.cell? (v5) ⟨b7, 7, none⟩ = some (.string vl) := Csn.KbC.cell HP5.out.x7 rfl
              obtain ⟨w5, hrun0, hw5, hg5⟩ := HP5.out.inv.put (g := ⟨(t, s, r), o, id, nm, ak, vl⟩) HO.out (by omega) HSm.out.2 HNw.out
              have hrun : (Instr.mapUpdate 90 (.map (some mb)) (.agg #[.int .i64 t, .int .i64 s, .int .i64 r]) (.agg #[.int .i64 t, .int .i64 s, .int .i64 r, .int .i64 o, .string id, .string nm, .string ak, .string vl])).run Tryz.prog v5 = .ok () w5 := hrun0
              have HI5 := Lib.hid hw5
              have HB5 := Lib.hid (HB5b.out.keptm HP5.out.inv.map hg5)
              clear hrun0 hw5 hg5
              go_wp2_with fail
              go_roundw
              case rel => exact ⟨i + 1, by omega, by go_num, Lib.hid (by rw [HM.out]; exact ⟨HI5.out, HB5.out⟩)⟩
              case measure => simp [intOf]; omega
      · have q0 : (c != 0) = true := by simpa using h0
        have HKp := Lib.hid (best_bad (l := L) (g := ⟨(t, s, r), o, id, nm, ak, vl⟩) (by rw [HCg.out]; exact h0))
        go_wp2_with fail
        go_roundw
        case rel => exact ⟨i + 1, by omega, by go_num, Lib.hid (by rw [HM.out]; exact ⟨HI.out.1.keep HKp.out, HI.out.2⟩)⟩
        case measure => simp [intOf]; omega
    · have e1 : ¬ (i : Int) < (xn : Int) := by omega
      obtain rfl : i = xn := by omega
      have HE := Lib.hid (show l.take i = l from List.take_of_length_le (by rw [HXn.out]; exact Nat.le_refl _))
      rw [HE.out] at HI
      have HB2 := Lib.hid HI.out.1.low
      have HTl := Lib.hid (HT.out wr mb i l (by have := hx2; omega) HI.out.1.map HZ.out)
      clear HI
      go_wp2_with fail
      refine HTl.out.mono ?_
      rintro e w3 ⟨cv, rfl, hb3, hcl⟩
      have HCl := Lib.hid hcl
      clear hcl
      go_wp2_with fail
      refine HCl.out.mono ?_
      rintro e w4 ⟨yo, yn, yc, ms, rfl, hat, hasc, hmem, hb4⟩
      have HAt := Lib.hid hat
      have HMe := Lib.hid (merge_of (a := a) (b := b) hasc (by rw [HL.out]; exact hmem))
      clear hat hasc hmem
      go_wp2_with fail
      go_ret
      exact ⟨yo, yn, yc, rfl, by rw [← HMe.out]; exact HAt.out, HB2.out.trans (hb4.mono HB2.out.size)⟩
end Go.Proofs.YtbkignlbcneddaaGreatDoor
end
