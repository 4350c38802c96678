/-
  Texts of the schema layer and of those beneath it, joined: SchKl, SchFew. Conditions stand at each contract.
-/
import Derived.StillTailTactics
import Derived.Test.YtclfjdnemafmeaaGreatDoorQ14
import Derived.Test.YtclfjdnemafmeaaGreatDoorQ17
import Derived.Test.YtclfjdnemafmeaaGreatDoorQ22
set_option linter.unusedVariables false
set_option linter.unusedSimpArgs false
set_option linter.unnecessarySimpa false

section
/-
  Contract of the specification's class. Condition: names of at most 1000000000 bytes.
-/
set_option maxRecDepth 100000
namespace Go.Proofs.YtclfjdnemafmeaaGreatDoor
open Go.RowKit Go.PlainAid
theorem cl_takeAt (l : List Cl) {k j : Nat} (h : j < k) : clAt (l.take k) j = clAt l j := by
  unfold clAt; rw [List.getD_eq_getElem?_getD, List.getElem?_take_of_lt h, List.getD_eq_getElem?_getD]
theorem ty_takeAt (l : List Ty) {k j : Nat} (h : j < k) : tyAt (l.take k) j = tyAt l j := by
  unfold tyAt; rw [List.getD_eq_getElem?_getD, List.getElem?_take_of_lt h, List.getD_eq_getElem?_getD]
theorem ClsAt.cut {w : World} {ao : Option Addr} {n cap : Nat} {l : List Cl} (h : ClsAt w ao n cap l) {k : Nat} (hk : k ≤ n) : ClsAt w ao k cap (l.take k) := by
  obtain ⟨h1, h2, h3, h4⟩ := h
  refine ⟨by rw [List.length_take]; omega, by omega, h3, fun hn => ?_⟩
  obtain ⟨b, off, e, hb, hs⟩ := h4 (by omega)
  exact ⟨b, off, e, hb, fun j hj => by rw [cl_takeAt l hj]; exact hs j (by omega)⟩
theorem TysAt.cut {w : World} {ao : Option Addr} {n cap : Nat} {l : List Ty} (h : TysAt w ao n cap l) {k : Nat} (hk : k ≤ n) : TysAt w ao k cap (l.take k) := by
  obtain ⟨h1, h2, h3, h4⟩ := h
  refine ⟨by rw [List.length_take]; omega, by omega, h3, fun hn => ?_⟩
  obtain ⟨b, off, e, hb, hs⟩ := h4 (by omega)
  exact ⟨b, off, e, hb, fun j hj => by rw [ty_takeAt l hj]; exact hs j (by omega)⟩
theorem TyIx.pos {l : List Ty} {n : ByteArray} {r : Int} (h : TyIx l n r) : (0 ≤ r ∧ (tyOf l n).isSome = true) ∨ (r < 0 ∧ (tyOf l n).isSome = false) := by
  rcases h with ⟨k, rfl, _, e⟩ | ⟨rfl, e⟩
  · exact .inl ⟨by omega, by rw [e]; rfl⟩
  · exact .inr ⟨by omega, by rw [e]; rfl⟩
theorem ClIx.pos {l : List Cl} {n : ByteArray} {r : Int} (h : ClIx l n r) : (0 ≤ r ∧ (clOf l n).isSome = true) ∨ (r < 0 ∧ (clOf l n).isSome = false) := by
  rcases h with ⟨k, rfl, _, e⟩ | ⟨rfl, e⟩
  · exact .inl ⟨by omega, by rw [e]; rfl⟩
  · exact .inr ⟨by omega, by rw [e]; rfl⟩
/-- the boxes of class: the schema, the class -/
structure KB (w W : World) (ao : Option Addr) (n cap : Nat) (bo : Option Addr) (m dap : Nat) (d : Cv) : Prop where
  box : W.heap[w.heap.size]? = some (.cells #[.slice ao n cap, .slice bo m dap] 25)
  cls : W.heap[w.heap.size + 1]? = some (.cells #[.string d.cl.name, .string d.cl.super, d.hm, d.hy] 57)
  low : Below w.heap.size w W
  big : w.heap.size + 1 < W.heap.size
theorem KB.step {w W V : World} {ao : Option Addr} {n cap : Nat} {bo : Option Addr} {m dap : Nat} {d : Cv} (h : KB w W ao n cap bo m dap d) (hb : Below W.heap.size W V) : KB w V ao n cap bo m dap d :=
  ⟨(hb.block _ (by have := h.big; omega)).trans h.box, (hb.block _ h.big).trans h.cls, h.low.trans (hb.mono (by have := h.big; omega)), Nat.lt_of_lt_of_le h.big hb.size⟩
theorem KB.cells {w W : World} {ao : Option Addr} {n cap : Nat} {bo : Option Addr} {m dap : Nat} {d : Cv} (h : KB w W ao n cap bo m dap d) :
    W.cell? ⟨w.heap.size, 0, none⟩ = some (.slice ao n cap) ∧ W.cell? ⟨w.heap.size, 1, none⟩ = some (.slice bo m dap) ∧ W.cell? ⟨w.heap.size + 1, 0, none⟩ = some (.string d.cl.name) ∧ W.cell? ⟨w.heap.size + 1, 1, none⟩ = some (.string d.cl.super) ∧ W.cell? ⟨w.heap.size + 1, 2, none⟩ = some d.hm ∧ W.cell? ⟨w.heap.size + 1, 3, none⟩ = some d.hy :=
  ⟨heap_cell h.box rfl, heap_cell h.box rfl, heap_cell h.cls rfl, heap_cell h.cls rfl, heap_cell h.cls rfl, heap_cell h.cls rfl⟩
theorem kb_new (w : World) (ao : Option Addr) (n cap : Nat) (bo : Option Addr) (m dap : Nat) (d : Cv) : KB w ((w.alloc (.cells #[.slice ao n cap, .slice bo m dap] 25)).alloc (.cells #[.string d.cl.name, .string d.cl.super, d.hm, d.hy] 57)) ao n cap bo m dap d :=
  ⟨(Below.heap_alloc _ _ _ (by simp)).trans (heap_alloc_new w _), by have := heap_alloc_new (w.alloc (.cells #[.slice ao n cap, .slice bo m dap] 25)) (.cells #[.string d.cl.name, .string d.cl.super, d.hm, d.hy] 57); simpa using this, ((Below.refl _ _).alloc (Nat.le_refl _) _).alloc (by simp) _, by simp⟩
theorem kbS {w W : World} {ao : Option Addr} {n cap : Nat} {bo : Option Addr} {m dap : Nat} {d : Cv} (h : KB w W ao n cap bo m dap d) : W.cell? ⟨w.heap.size, 1, none⟩ = some (.slice bo m dap) ∧ W.cell? ⟨w.heap.size + 1, 1, none⟩ = some (.string d.cl.super) ∧ Hid (KB w W ao n cap bo m dap d) :=
  ⟨h.cells.2.1, h.cells.2.2.2.1, Lib.hid h⟩
set_option maxHeartbeats 8000000 in
theorem classR_s (v : Value) (ts : List Ty) (cs : List Cl) (k : Nat) (w : World) (h : SchV w v ts cs) (hk : k < cs.length) :
    Calls Tryz.prog 45 #[v, .int .i64 k] w fun e w' => e = .returned (.int .i64 (errC ts cs k)) ∧ Below w.heap.size w w' := by
  obtain ⟨ao, n, cap, bo, m, dap, rfl, hT, hC, hsT, hsC⟩ := h
  obtain ⟨hm1, hm2, hm3, hm4⟩ := id hC
  have htl := hT.1
  have htc := hT.2.1
  have htx := hT.2.2.1
  unfold maxLen at hm3 htx
  obtain ⟨b, off, rfl, hbl, hat⟩ := hm4 (by omega)
  obtain ⟨d, hd, hdk, y0, y1, y2, y3⟩ := cl_val (hat k (by omega))
  obtain ⟨hn0, hn1, hn2, hn3⟩ := hsC _ (cl_mem cs k hk)
  have hal : Below w.heap.size w (w.alloc (.cells #[.slice ao n cap, .slice (some ⟨b, off, none⟩) m dap] 25)) := (Below.refl _ _).alloc (Nat.le_refl _) _
  have y0 := cell_later hal y0
  have y1 := cell_later hal y1
  have y2 := cell_later hal y2
  have y3 := cell_later hal y3
  have HK0 := Lib.hid (kb_new w ao n cap (some ⟨b, off, none⟩) m dap d)
  have HIn := Lib.hid (And.intro hT (And.intro hC (And.intro hsT hsC)))
  have HDk := Lib.hid hdk
  have hE : errC ts cs k = errCl ts (cs.take k) d.cl := by rw [errC_take, hd]
  rw [hE]
  rw [← hd] at hn0 hn1 hn2 hn3 y0 y1
  obtain ⟨⟨cn, sup, mu, ma⟩, dm, dy⟩ := d
  simp only at hn0 hn1 hn2 hn3 y0 y1 y2 y3
  obtain ⟨⟨a1, p1, q1, rfl, hS1⟩, a2, p2, q2, rfl, hS2⟩ := hdk
  have HS := Lib.hid (And.intro hS1 hS2)
  obtain ⟨nb, hnb⟩ : ∃ x, nameB cn = x := ⟨_, rfl⟩
  have HNb := Lib.hid hnb
  have k0 : (0 : Int) ≤ (k : Int) := by omega
  have k1 : (k : Int) < (m : Int) := by omega
  have hal2 : w.heap.size ≤ w.heap.size + 1 := Nat.le_succ _
  clear hT hC hm4 hat hsT hsC hd hE hS1 hS2 hnb hal
  go_enter Tryz.func45, Tryz.ntmps45
  go_wp2_with fail
  refine (rName_s cn _ hn0).mono ?_
  rintro e w1 ⟨rfl, rfl⟩
  rw [HNb.out]
  cases nb
  · go_wp2_with fail
    go_ret
    exact ⟨by unfold errCl; rw [HNb.out]; rfl, HK0.out.low⟩
  · go_wp2_with fail
    have HC1 := Lib.hid (fun W (hb : Below w.heap.size w W) => classAt_s (some ⟨b, off, none⟩) k dap (cs.take k) cn W ((HIn.out.2.1.below hb).cut (by omega)) (fun t ht => (HIn.out.2.2.2 t (List.mem_of_mem_take ht)).1) hn0)
    have HC2 := Lib.hid (fun W (hb : Below w.heap.size w W) => classAt_s (some ⟨b, off, none⟩) k dap (cs.take k) sup W ((HIn.out.2.1.below hb).cut (by omega)) (fun t ht => (HIn.out.2.2.2 t (List.mem_of_mem_take ht)).1) hn1)
    generalize (w.alloc (.cells #[.slice ao n cap, .slice (some ⟨b, off, none⟩) m dap] 25)).alloc (.cells #[.string cn, .string sup, .slice a1 p1 q1, .slice a2 p2 q2] 57) = W1 at HK0 ⊢
    obtain ⟨c0, c1, x0, x1, x2, x3⟩ := HK0.out.cells
    simp only at x0 x1 x2 x3
    have k2 : (k : Int) ≤ (dap : Int) := by omega
    refine wp_region_still_tail 6 (by kernel_rfl) (by kernel_rfl) ?_
    simp only [List.take_succ_cons, List.take_zero, List.drop_succ_cons, List.drop_zero]
    change wpStill _ _ (World.drew _) _ _ _
    still_step
    still_step
    still_step
    still_step
    still_step
    still_step
    refine wpStill_nil ?_
    change wpList _ _ _ _ _ (World.drew _)
    have HK1 := Lib.hid (HK0.out.step (Below.refl _ _).drew)
    clear c0 c1 x0 x1 x2 x3
    generalize World.drew _ = W2 at HK1 ⊢
    obtain ⟨c0, c1, x0, x1, x2, x3⟩ := HK1.out.cells
    simp only at x0 x1 x2 x3
    go_wp2_with fail
    refine (HC1.out _ HK1.out.low).mono ?_
    rintro e W3 ⟨r, rfl, hix, hb⟩
    have HK2 := Lib.hid (HK1.out.step hb)
    have HIx := Lib.hid hix.pos
    clear c0 c1 x0 x1 x2 x3 hb hix HC1
    obtain ⟨c0, c1, x0, x1, x2, x3⟩ := HK2.out.cells
    simp only at x0 x1 x2 x3
    by_cases hr : 0 ≤ r
    · have hq : (clOf (cs.take k) cn).isSome = true := by rcases HIx.out with h | h; exact h.2; omega
      have HE := Lib.hid (show errCl ts (cs.take k) ⟨cn, sup, mu, ma⟩ = 7 by unfold errCl; simp only; rw [if_neg (by rw [HNb.out]; decide), if_pos hq])
      clear hq
      go_wp2_with fail
      go_ret
      exact ⟨by rw [HE.out]; rfl, HK2.out.low⟩
    · have hq : (clOf (cs.take k) cn).isSome = false := by rcases HIx.out with h | h; omega; exact h.2
      have HE := Lib.hid (show errCl ts (cs.take k) ⟨cn, sup, mu, ma⟩ = if sup.size ≠ 0 ∧ (clOf (cs.take k) sup).isSome = false then 6 else if 64 < mu.length ∨ 64 < ma.length then 3 else if typedB ts mu = false ∨ typedB ts ma = false then 6 else 0 by unfold errCl; simp only; rw [if_neg (by rw [HNb.out]; decide), if_neg (by rw [hq]; decide)])
      clear hq
      go_wp2_with fail
      have S0 := kbS (HK2.out.step (Below.refl _ _).drew)
      clear c0 c1 x0 x1 x2 x3
      by_cases hz : sup.size = 0
      · have z0 : sup.toList.isEmpty = true := by rw [str_none]; exact decide_eq_true hz
        refine wp_region_held_drew (S := fun W => W.cell? ⟨w.heap.size, 1, none⟩ = some (.slice (some ⟨b, off, none⟩) m dap) ∧ W.cell? ⟨w.heap.size + 1, 1, none⟩ = some (.string sup) ∧ Hid (KB w W ao n cap (some ⟨b, off, none⟩) m dap ⟨⟨cn, sup, mu, ma⟩, .slice a1 p1 q1, .slice a2 p2 q2⟩)) (by kernel_rfl) (S0) (fun hS => ?_)
        refine wpAnyH_take (i := 0) (oi := { dst := some 25, op := _, type := _, pos := _, after := _, guard := _ }) (v := ?_) rfl (by kernel_rfl) (by kernel_rfl) (by kernel_rfl) (fun _ _ _ h => h) (Or.inl ⟨by rfl, ?_⟩) (by assumption) ?_
        rotate_left
        · intro w hSw
          try dsimp only at hSw
          go_simp
          try with_reducible rfl
        try simp only [Act.put, List.setIfInBounds_toArray, List.set_cons_zero, List.set_cons_succ]
        refine wpAnyH_take (i := 1) (oi := { dst := some 26, op := _, type := _, pos := _, after := _, guard := _ }) (v := ?_) rfl (by kernel_rfl) (by kernel_rfl) (by kernel_rfl) (fun _ _ _ h => h) (Or.inl ⟨by rfl, ?_⟩) (by assumption) ?_
        rotate_left
        · intro w hSw
          try dsimp only at hSw
          go_simp
          try with_reducible rfl
        try simp only [Act.put, List.setIfInBounds_toArray, List.set_cons_zero, List.set_cons_succ]
        refine wpAnyH_take (i := 2) (oi := { dst := some 27, op := _, type := _, pos := _, after := _, guard := _ }) (v := ?_) rfl (by kernel_rfl) (by kernel_rfl) (by kernel_rfl) (fun _ _ _ h => h) (Or.inl ⟨by rfl, ?_⟩) (by assumption) ?_
        rotate_left
        · intro w hSw
          try dsimp only at hSw
          go_simp
          try with_reducible rfl
        try simp only [Act.put, List.setIfInBounds_toArray, List.set_cons_zero, List.set_cons_succ]
        refine wpAnyH_take (i := 3) (oi := { dst := some 28, op := _, type := _, pos := _, after := _, guard := _ }) (v := ?_) rfl (by kernel_rfl) (by kernel_rfl) (by kernel_rfl) (fun _ _ _ h => h) (Or.inl ⟨by rfl, ?_⟩) (by assumption) ?_
        rotate_left
        · intro w hSw
          try dsimp only at hSw
          go_simp
          try with_reducible rfl
        try simp only [Act.put, List.setIfInBounds_toArray, List.set_cons_zero, List.set_cons_succ]
        refine wpAnyH_take (i := 4) (oi := { dst := some 29, op := _, type := _, pos := _, after := _, guard := _ }) (v := undef) rfl (by kernel_rfl) (by kernel_rfl) (by kernel_rfl) (fun _ _ _ h => h) (Or.inr ⟨by rfl, rfl⟩) (by assumption) ?_
        try simp only [Act.put, List.setIfInBounds_toArray, List.set_cons_zero, List.set_cons_succ]
        refine wpAnyH_take (i := 5) (oi := { dst := some 30, op := _, type := _, pos := _, after := _, guard := _ }) (v := undef) rfl (by kernel_rfl) (by kernel_rfl) (by kernel_rfl) (fun _ _ _ h => h) (Or.inr ⟨by rfl, rfl⟩) (by assumption) ?_
        try simp only [Act.put, List.setIfInBounds_toArray, List.set_cons_zero, List.set_cons_succ]
        refine wpAnyH_take (i := 6) (oi := { dst := some 31, op := _, type := _, pos := _, after := _, guard := _ }) (v := undef) rfl (by kernel_rfl) (by kernel_rfl) (by kernel_rfl) (fun _ _ _ h => h) (Or.inr ⟨by rfl, rfl⟩) (by assumption) ?_
        try simp only [Act.put, List.setIfInBounds_toArray, List.set_cons_zero, List.set_cons_succ]
        refine wpAnyH_take (i := 7) (oi := { dst := some 32, op := _, type := _, pos := _, after := _, guard := _ }) (v := undef) rfl (by kernel_rfl) (by kernel_rfl) (by kernel_rfl) (fun _ _ _ h => h) (Or.inr ⟨by rfl, rfl⟩) (by assumption) ?_
        try simp only [Act.put, List.setIfInBounds_toArray, List.set_cons_zero, List.set_cons_succ]
        refine wpAnyH_take (i := 8) (oi := { dst := some 33, op := _, type := _, pos := _, after := _, guard := _ }) (v := undef) rfl (by kernel_rfl) (by kernel_rfl) (by kernel_rfl) (fun _ _ _ h => h) (Or.inr ⟨by rfl, rfl⟩) (by assumption) ?_
        try simp only [Act.put, List.setIfInBounds_toArray, List.set_cons_zero, List.set_cons_succ]
        refine wpAnyH_take (i := 9) (oi := { dst := some 34, op := _, type := _, pos := _, after := _, guard := _ }) (v := undef) rfl (by kernel_rfl) (by kernel_rfl) (by kernel_rfl) (fun _ _ _ h => h) (Or.inr ⟨by rfl, rfl⟩) (by assumption) ?_
        try simp only [Act.put, List.setIfInBounds_toArray, List.set_cons_zero, List.set_cons_succ]
        refine wpAnyH_take (i := 10) (oi := { dst := some 35, op := _, type := _, pos := _, after := _, guard := _ }) (v := undef) rfl (by kernel_rfl) (by kernel_rfl) (by kernel_rfl) (fun _ _ _ h => h) (Or.inr ⟨by rfl, rfl⟩) (by assumption) ?_
        try simp only [Act.put, List.setIfInBounds_toArray, List.set_cons_zero, List.set_cons_succ]
        refine wpAnyH_take (i := 11) (oi := { dst := some 36, op := _, type := _, pos := _, after := _, guard := _ }) (v := undef) rfl (by kernel_rfl) (by kernel_rfl) (by kernel_rfl) (fun _ _ _ h => h) (Or.inr ⟨by rfl, rfl⟩) (by assumption) ?_
        try simp only [Act.put, List.setIfInBounds_toArray, List.set_cons_zero, List.set_cons_succ]
        refine wpAnyH_take (i := 12) (oi := { dst := some 37, op := _, type := _, pos := _, after := _, guard := _ }) (v := ?_) rfl (by kernel_rfl) (by kernel_rfl) (by kernel_rfl) (fun _ _ _ h => h) (Or.inl ⟨by rfl, ?_⟩) (by assumption) ?_
        rotate_left
        · intro w hSw
          try dsimp only at hSw
          go_simp
          try with_reducible rfl
        try simp only [Act.put, List.setIfInBounds_toArray, List.set_cons_zero, List.set_cons_succ]
        refine wpAnyH_done (by kernel_rfl) ?_ _
        have HK3 := S0.2.2
        clear S0
        generalize World.drew W3 = W4 at HK3 ⊢
        obtain ⟨c0, c1, x0, x1, x2, x3⟩ := HK3.out.cells
        simp only at x0 x1 x2 x3
        have hl1 := HS.out.1.1
        have hl2 := HS.out.2.1
        by_cases hp : 64 < p1
        · have d1 : (p1 : Int) > 64 := by omega
          go_wp2_with fail
          go_ret
          exact ⟨by rw [HE.out, if_neg (fun h => h.1 hz), if_pos (.inl (by omega))]; rfl, HK3.out.low⟩
        · have d1 : ¬ (p1 : Int) > 64 := by omega
          by_cases hp2 : 64 < p2
          · have d2 : (p2 : Int) > 64 := by omega
            go_wp2_with fail
            go_ret
            exact ⟨by rw [HE.out, if_neg (fun h => h.1 hz), if_pos (.inr (by omega))]; rfl, HK3.out.low⟩
          · have d2 : ¬ (p2 : Int) > 64 := by omega
            have HE2 := Lib.hid (show errCl ts (cs.take k) ⟨cn, sup, mu, ma⟩ = if typedB ts mu = false ∨ typedB ts ma = false then 6 else 0 by rw [HE.out, if_neg (fun h => h.1 hz), if_neg (by omega)])
            have HS1 := Lib.hid HS.out.1
            have HS2 := Lib.hid HS.out.2
            clear HE d1
            go_wp2_with fail
            go_loopw [6] (fun i wr => ∃ j : Nat, j ≤ p1 ∧ i = .int .i64 j ∧ Hid (typedB ts (mu.take j) = true) ∧ Hid (KB w wr ao n cap (some ⟨b, off, none⟩) m dap ⟨⟨cn, sup, mu, ma⟩, .slice a1 p1 q1, .slice a2 p2 q2⟩)) (fun i _ => p1 - (intOf i).toNat)
            case atStart => exact ⟨0, Nat.zero_le _, rfl, Lib.hid rfl, HK3⟩
            case round =>
              clear c0 c1 x0 x1 x2 x3
              obtain ⟨j, hj, rfl, HA, HKj⟩ := hrel
              obtain ⟨c0, c1, x0, x1, x2, x3⟩ := HKj.out.cells
              simp only at x0 x1 x2 x3
              by_cases hlt : j < p1
              · obtain ⟨g, o, rfl, hgl, hcs⟩ := (HS1.out.below HKj.out.low).2.2.2 (by omega)
                have hcell := hcs j (by rw [HS1.out.1]; exact hlt)
                obtain ⟨x, hx⟩ : ∃ x, partAt mu j = x := ⟨_, rfl⟩
                have hxs : x.size ≤ 1000000000 := by rw [← hx]; exact hn2 _ (part_mem mu j (by rw [HS1.out.1]; exact hlt))
                rw [hx] at hcell
                have HX := Lib.hid hx
                have e1 : (0 : Int) ≤ (j : Int) := by omega
                have e2 : (j : Int) < (p1 : Int) := by omega
                clear hcs hx
                go_wp2_with fail
                refine wp_region_still_tail 7 (by kernel_rfl) (by kernel_rfl) ?_
                simp only [List.take_succ_cons, List.take_zero, List.drop_succ_cons, List.drop_zero]
                change wpStill _ _ (World.drew _) _ _ _
                still_step
                still_step
                still_step
                still_step
                still_step
                still_step
                still_step
                refine wpStill_nil ?_
                change wpList _ _ _ _ _ (World.drew _)
                have HKd := Lib.hid (HKj.out.step (Below.refl _ _).drew)
                clear c0 c1 x0 x1 x2 x3 hcell
                generalize World.drew _ = Wd at HKd ⊢
                obtain ⟨c0, c1, x0, x1, x2, x3⟩ := HKd.out.cells
                simp only at x0 x1 x2 x3
                have HCt := Lib.hid (typeAt_s ao n cap ts x Wd (HIn.out.1.below HKd.out.low) HIn.out.2.2.1 hxs)
                go_wp2_with fail
                refine HCt.out.mono ?_
                rintro e We ⟨r', rfl, hix, hb⟩
                have HKe := Lib.hid (HKd.out.step hb)
                have HIx' := Lib.hid hix.pos
                clear c0 c1 x0 x1 x2 x3 hb hix HCt
                obtain ⟨c0, c1, x0, x1, x2, x3⟩ := HKe.out.cells
                simp only at x0 x1 x2 x3
                by_cases hr' : r' < 0
                · have hq : (tyOf ts x).isSome = false := by rcases HIx'.out with h | h; omega; exact h.2
                  have HF := Lib.hid (show typedB ts mu = false from all_false (by rw [HS1.out.1]; exact hlt) (by rw [HX.out]; exact hq))
                  clear hq
                  go_wp2_with fail
                  go_ret
                  exact ⟨by rw [HE2.out, if_pos (.inl HF.out)]; rfl, HKe.out.low⟩
                · have hq : (tyOf ts x).isSome = true := by rcases HIx'.out with h | h; exact h.2; omega
                  have HA2 := Lib.hid (show typedB ts (mu.take (j + 1)) = true from all_take HA.out (by rw [HS1.out.1]; exact hlt) (by rw [HX.out]; exact hq))
                  clear hq
                  go_wp2_with fail
                  go_roundw
                  case rel => exact ⟨j + 1, by omega, by go_num, HA2, HKe⟩
                  case measure => simp [intOf]; omega
              · obtain rfl : p1 = j := by omega
                have e3 : ¬ (p1 : Int) < (p1 : Int) := by omega
                have HAll := Lib.hid (show typedB ts mu = true by have := HA.out; rwa [List.take_of_length_le (by have := HS1.out.1; omega)] at this)
                go_wp2_with fail
                have HM := Lib.hid HAll.out
                clear HAll HA
                go_loopw [7] (fun i wr => ∃ j : Nat, j ≤ p2 ∧ i = .int .i64 j ∧ Hid (typedB ts (ma.take j) = true) ∧ Hid (KB w wr ao n cap (some ⟨b, off, none⟩) m dap ⟨⟨cn, sup, mu, ma⟩, .slice a1 p1 q1, .slice a2 p2 q2⟩)) (fun i _ => p2 - (intOf i).toNat)
                case atStart => exact ⟨0, Nat.zero_le _, rfl, Lib.hid rfl, HKj⟩
                case round =>
                  clear c0 c1 x0 x1 x2 x3
                  obtain ⟨j, hj, rfl, HA, HKj⟩ := hrel
                  obtain ⟨c0, c1, x0, x1, x2, x3⟩ := HKj.out.cells
                  simp only at x0 x1 x2 x3
                  by_cases hlt : j < p2
                  · obtain ⟨g, o, rfl, hgl, hcs⟩ := (HS2.out.below HKj.out.low).2.2.2 (by omega)
                    have hcell := hcs j (by rw [HS2.out.1]; exact hlt)
                    obtain ⟨x, hx⟩ : ∃ x, partAt ma j = x := ⟨_, rfl⟩
                    have hxs : x.size ≤ 1000000000 := by rw [← hx]; exact hn3 _ (part_mem ma j (by rw [HS2.out.1]; exact hlt))
                    rw [hx] at hcell
                    have HX := Lib.hid hx
                    have e1 : (0 : Int) ≤ (j : Int) := by omega
                    have e2 : (j : Int) < (p2 : Int) := by omega
                    clear hcs hx
                    go_wp2_with fail
                    refine wp_region_still_tail 7 (by kernel_rfl) (by kernel_rfl) ?_
                    simp only [List.take_succ_cons, List.take_zero, List.drop_succ_cons, List.drop_zero]
                    change wpStill _ _ (World.drew _) _ _ _
                    still_step
                    still_step
                    still_step
                    still_step
                    still_step
                    still_step
                    still_step
                    refine wpStill_nil ?_
                    change wpList _ _ _ _ _ (World.drew _)
                    have HKd := Lib.hid (HKj.out.step (Below.refl _ _).drew)
                    clear c0 c1 x0 x1 x2 x3 hcell
                    generalize World.drew _ = Wd at HKd ⊢
                    obtain ⟨c0, c1, x0, x1, x2, x3⟩ := HKd.out.cells
                    simp only at x0 x1 x2 x3
                    have HCt := Lib.hid (typeAt_s ao n cap ts x Wd (HIn.out.1.below HKd.out.low) HIn.out.2.2.1 hxs)
                    go_wp2_with fail
                    refine HCt.out.mono ?_
                    rintro e We ⟨r', rfl, hix, hb⟩
                    have HKe := Lib.hid (HKd.out.step hb)
                    have HIx' := Lib.hid hix.pos
                    clear c0 c1 x0 x1 x2 x3 hb hix HCt
                    obtain ⟨c0, c1, x0, x1, x2, x3⟩ := HKe.out.cells
                    simp only at x0 x1 x2 x3
                    by_cases hr' : r' < 0
                    · have hq : (tyOf ts x).isSome = false := by rcases HIx'.out with h | h; omega; exact h.2
                      have HF := Lib.hid (show typedB ts ma = false from all_false (by rw [HS2.out.1]; exact hlt) (by rw [HX.out]; exact hq))
                      clear hq
                      go_wp2_with fail
                      go_ret
                      exact ⟨by rw [HE2.out, if_pos (.inr HF.out)]; rfl, HKe.out.low⟩
                    · have hq : (tyOf ts x).isSome = true := by rcases HIx'.out with h | h; exact h.2; omega
                      have HA2 := Lib.hid (show typedB ts (ma.take (j + 1)) = true from all_take HA.out (by rw [HS2.out.1]; exact hlt) (by rw [HX.out]; exact hq))
                      clear hq
                      go_wp2_with fail
                      go_roundw
                      case rel => exact ⟨j + 1, by omega, by go_num, HA2, HKe⟩
                      case measure => simp [intOf]; omega
                  · obtain rfl : p2 = j := by omega
                    have e3 : ¬ (p2 : Int) < (p2 : Int) := by omega
                    have HAll := Lib.hid (show typedB ts ma = true by have := HA.out; rwa [List.take_of_length_le (by have := HS2.out.1; omega)] at this)
                    go_wp2_with fail
                    go_ret
                    exact ⟨by rw [HE2.out, if_neg (by rw [HM.out, HAll.out]; simp)]; rfl, HKj.out.low⟩
      · have z0 : sup.toList.isEmpty = false := by rw [str_none]; exact decide_eq_false hz
        have HKd := S0.2.2
        refine wp_region_held_drew (S := fun W => W.cell? ⟨w.heap.size, 1, none⟩ = some (.slice (some ⟨b, off, none⟩) m dap) ∧ W.cell? ⟨w.heap.size + 1, 1, none⟩ = some (.string sup) ∧ Hid (KB w W ao n cap (some ⟨b, off, none⟩) m dap ⟨⟨cn, sup, mu, ma⟩, .slice a1 p1 q1, .slice a2 p2 q2⟩)) (by kernel_rfl) (S0) (fun hS => ?_)
        refine wpAnyH_take (i := 0) (oi := { dst := some 25, op := _, type := _, pos := _, after := _, guard := _ }) (v := ?_) rfl (by kernel_rfl) (by kernel_rfl) (by kernel_rfl) (fun _ _ _ h => h) (Or.inl ⟨by rfl, ?_⟩) (by assumption) ?_
        rotate_left
        · intro w hSw
          try dsimp only at hSw
          go_simp
          try with_reducible rfl
        try simp only [Act.put, List.setIfInBounds_toArray, List.set_cons_zero, List.set_cons_succ]
        refine wpAnyH_take (i := 1) (oi := { dst := some 26, op := _, type := _, pos := _, after := _, guard := _ }) (v := ?_) rfl (by kernel_rfl) (by kernel_rfl) (by kernel_rfl) (fun _ _ _ h => h) (Or.inl ⟨by rfl, ?_⟩) (by assumption) ?_
        rotate_left
        · intro w hSw
          try dsimp only at hSw
          go_simp
          try with_reducible rfl
        try simp only [Act.put, List.setIfInBounds_toArray, List.set_cons_zero, List.set_cons_succ]
        refine wpAnyH_take (i := 2) (oi := { dst := some 27, op := _, type := _, pos := _, after := _, guard := _ }) (v := ?_) rfl (by kernel_rfl) (by kernel_rfl) (by kernel_rfl) (fun _ _ _ h => h) (Or.inl ⟨by rfl, ?_⟩) (by assumption) ?_
        rotate_left
        · intro w hSw
          try dsimp only at hSw
          go_simp
          try with_reducible rfl
        try simp only [Act.put, List.setIfInBounds_toArray, List.set_cons_zero, List.set_cons_succ]
        refine wpAnyH_take (i := 3) (oi := { dst := some 28, op := _, type := _, pos := _, after := _, guard := _ }) (v := ?_) rfl (by kernel_rfl) (by kernel_rfl) (by kernel_rfl) (fun _ _ _ h => h) (Or.inl ⟨by rfl, ?_⟩) (by assumption) ?_
        rotate_left
        · intro w hSw
          try dsimp only at hSw
          go_simp
          try with_reducible rfl
        try simp only [Act.put, List.setIfInBounds_toArray, List.set_cons_zero, List.set_cons_succ]
        refine wpAnyH_take (i := 4) (oi := { dst := some 29, op := _, type := _, pos := _, after := _, guard := _ }) (v := ?_) rfl (by kernel_rfl) (by kernel_rfl) (by kernel_rfl) (fun _ _ _ h => h) (Or.inl ⟨by rfl, ?_⟩) (by assumption) ?_
        rotate_left
        · intro w hSw
          try dsimp only at hSw
          go_simp
          try with_reducible rfl
        try simp only [Act.put, List.setIfInBounds_toArray, List.set_cons_zero, List.set_cons_succ]
        refine wpAnyH_take (i := 5) (oi := { dst := some 30, op := _, type := _, pos := _, after := _, guard := _ }) (v := ?_) rfl (by kernel_rfl) (by kernel_rfl) (by kernel_rfl) (fun _ _ _ h => h) (Or.inl ⟨by rfl, ?_⟩) (by assumption) ?_
        rotate_left
        · intro w hSw
          try dsimp only at hSw
          go_simp
          try with_reducible rfl
        try simp only [Act.put, List.setIfInBounds_toArray, List.set_cons_zero, List.set_cons_succ]
        refine wpAnyH_take (i := 6) (oi := { dst := some 31, op := _, type := _, pos := _, after := _, guard := _ }) (v := ?_) rfl (by kernel_rfl) (by kernel_rfl) (by kernel_rfl) (fun _ _ _ h => h) (Or.inl ⟨by rfl, ?_⟩) (by assumption) ?_
        rotate_left
        · intro w hSw
          try dsimp only at hSw
          go_simp
          try with_reducible rfl
        try simp only [Act.put, List.setIfInBounds_toArray, List.set_cons_zero, List.set_cons_succ]
        refine wpAnyH_take (i := 7) (oi := { dst := some 32, op := _, type := _, pos := _, after := _, guard := _ }) (v := ?_) rfl (by kernel_rfl) (by kernel_rfl) (by kernel_rfl) (fun _ _ _ h => h) (Or.inl ⟨by rfl, ?_⟩) (by assumption) ?_
        rotate_left
        · intro w hSw
          try dsimp only at hSw
          go_simp
          try with_reducible rfl
        try simp only [Act.put, List.setIfInBounds_toArray, List.set_cons_zero, List.set_cons_succ]
        refine wpAnyH_take (i := 8) (oi := { dst := some 33, op := _, type := _, pos := _, after := _, guard := _ }) (v := ?_) rfl (by kernel_rfl) (by kernel_rfl) (by kernel_rfl) (fun _ _ _ h => h) (Or.inl ⟨by rfl, ?_⟩) (by assumption) ?_
        rotate_left
        · intro w hSw
          try dsimp only at hSw
          go_simp
          try with_reducible rfl
        try simp only [Act.put, List.setIfInBounds_toArray, List.set_cons_zero, List.set_cons_succ]
        refine wpAnyH_take (i := 9) (oi := { dst := some 34, op := _, type := _, pos := _, after := _, guard := _ }) (v := ?_) rfl (by kernel_rfl) (by kernel_rfl) (by kernel_rfl) (fun _ _ _ h => h) (Or.inl ⟨by rfl, ?_⟩) (by assumption) ?_
        rotate_left
        · intro w hSw
          try dsimp only at hSw
          go_simp
          try with_reducible rfl
        try simp only [Act.put, List.setIfInBounds_toArray, List.set_cons_zero, List.set_cons_succ]
        refine wpAnyH_ready (rs := [10]) (by kernel_rfl) (by simp) ?_
        refine AllReadyH.cons rfl (fun K hK => ?_) AllReadyH.nil
        go_simp
        refine (HC2.out _ HKd.out.low).mono ?_
        rintro e W4 ⟨r2, rfl, hix, hb⟩
        go_wp2_with fail
        refine hK.out _ _ ?_ (fun hHeld => ?_)
        · exact kbS (HKd.out.step hb)
        clear hK K
        try simp only [Act.put, List.setIfInBounds_toArray, List.set_cons_zero, List.set_cons_succ]
        refine wpAnyH_take (i := 11) (oi := { dst := some 36, op := _, type := _, pos := _, after := _, guard := _ }) (v := ?_) rfl (by kernel_rfl) (by kernel_rfl) (by kernel_rfl) (fun _ _ _ h => h) (Or.inl ⟨by rfl, ?_⟩) (by assumption) ?_
        rotate_left
        · intro w hSw
          try dsimp only at hSw
          go_simp
          try with_reducible rfl
        try simp only [Act.put, List.setIfInBounds_toArray, List.set_cons_zero, List.set_cons_succ]
        refine wpAnyH_take (i := 12) (oi := { dst := some 37, op := _, type := _, pos := _, after := _, guard := _ }) (v := ?_) rfl (by kernel_rfl) (by kernel_rfl) (by kernel_rfl) (fun _ _ _ h => h) (Or.inl ⟨by rfl, ?_⟩) (by assumption) ?_
        rotate_left
        · intro w hSw
          try dsimp only at hSw
          go_simp
          try with_reducible rfl
        try simp only [Act.put, List.setIfInBounds_toArray, List.set_cons_zero, List.set_cons_succ]
        refine wpAnyH_done (by kernel_rfl) ?_ _
        have HK3 := Lib.hid (HKd.out.step hb)
        have HIx2 := Lib.hid hix.pos
        clear S0 hix hb
        obtain ⟨c0, c1, x0, x1, x2, x3⟩ := HK3.out.cells
        simp only at x0 x1 x2 x3
        by_cases hr2 : r2 < 0
        · have hq2 : (clOf (cs.take k) sup).isSome = false := by rcases HIx2.out with h | h; omega; exact h.2
          have HE6 := Lib.hid (HE.out.trans (if_pos ⟨hz, hq2⟩))
          clear hq2
          go_wp2_with fail
          go_ret
          exact ⟨by rw [HE6.out]; rfl, HK3.out.low⟩
        · have hq2 : (clOf (cs.take k) sup).isSome = true := by rcases HIx2.out with h | h; exact h.2; omega
          have hl1 := HS.out.1.1
          have hl2 := HS.out.2.1
          by_cases hp : 64 < p1
          · have d1 : (p1 : Int) > 64 := by omega
            go_wp2_with fail
            go_ret
            exact ⟨by rw [HE.out, if_neg (fun h => by have := h.2; rw [hq2] at this; cases this), if_pos (.inl (by omega))]; rfl, HK3.out.low⟩
          · have d1 : ¬ (p1 : Int) > 64 := by omega
            by_cases hp2 : 64 < p2
            · have d2 : (p2 : Int) > 64 := by omega
              go_wp2_with fail
              go_ret
              exact ⟨by rw [HE.out, if_neg (fun h => by have := h.2; rw [hq2] at this; cases this), if_pos (.inr (by omega))]; rfl, HK3.out.low⟩
            · have d2 : ¬ (p2 : Int) > 64 := by omega
              have HE2 := Lib.hid (show errCl ts (cs.take k) ⟨cn, sup, mu, ma⟩ = if typedB ts mu = false ∨ typedB ts ma = false then 6 else 0 by rw [HE.out, if_neg (fun h => by have := h.2; rw [hq2] at this; cases this), if_neg (by omega)])
              have HS1 := Lib.hid HS.out.1
              have HS2 := Lib.hid HS.out.2
              clear HE d1
              go_wp2_with fail
              go_loopw [6] (fun i wr => ∃ j : Nat, j ≤ p1 ∧ i = .int .i64 j ∧ Hid (typedB ts (mu.take j) = true) ∧ Hid (KB w wr ao n cap (some ⟨b, off, none⟩) m dap ⟨⟨cn, sup, mu, ma⟩, .slice a1 p1 q1, .slice a2 p2 q2⟩)) (fun i _ => p1 - (intOf i).toNat)
              case atStart => exact ⟨0, Nat.zero_le _, rfl, Lib.hid rfl, HK3⟩
              case round =>
                clear c0 c1 x0 x1 x2 x3
                obtain ⟨j, hj, rfl, HA, HKj⟩ := hrel
                obtain ⟨c0, c1, x0, x1, x2, x3⟩ := HKj.out.cells
                simp only at x0 x1 x2 x3
                by_cases hlt : j < p1
                · obtain ⟨g, o, rfl, hgl, hcs⟩ := (HS1.out.below HKj.out.low).2.2.2 (by omega)
                  have hcell := hcs j (by rw [HS1.out.1]; exact hlt)
                  obtain ⟨x, hx⟩ : ∃ x, partAt mu j = x := ⟨_, rfl⟩
                  have hxs : x.size ≤ 1000000000 := by rw [← hx]; exact hn2 _ (part_mem mu j (by rw [HS1.out.1]; exact hlt))
                  rw [hx] at hcell
                  have HX := Lib.hid hx
                  have e1 : (0 : Int) ≤ (j : Int) := by omega
                  have e2 : (j : Int) < (p1 : Int) := by omega
                  clear hcs hx
                  go_wp2_with fail
                  refine wp_region_still_tail 7 (by kernel_rfl) (by kernel_rfl) ?_
                  simp only [List.take_succ_cons, List.take_zero, List.drop_succ_cons, List.drop_zero]
                  change wpStill _ _ (World.drew _) _ _ _
                  still_step
                  still_step
                  still_step
                  still_step
                  still_step
                  still_step
                  still_step
                  refine wpStill_nil ?_
                  change wpList _ _ _ _ _ (World.drew _)
                  have HKd := Lib.hid (HKj.out.step (Below.refl _ _).drew)
                  clear c0 c1 x0 x1 x2 x3 hcell
                  generalize World.drew _ = Wd at HKd ⊢
                  obtain ⟨c0, c1, x0, x1, x2, x3⟩ := HKd.out.cells
                  simp only at x0 x1 x2 x3
                  have HCt := Lib.hid (typeAt_s ao n cap ts x Wd (HIn.out.1.below HKd.out.low) HIn.out.2.2.1 hxs)
                  go_wp2_with fail
                  refine HCt.out.mono ?_
                  rintro e We ⟨r', rfl, hix, hb⟩
                  have HKe := Lib.hid (HKd.out.step hb)
                  have HIx' := Lib.hid hix.pos
                  clear c0 c1 x0 x1 x2 x3 hb hix HCt
                  obtain ⟨c0, c1, x0, x1, x2, x3⟩ := HKe.out.cells
                  simp only at x0 x1 x2 x3
                  by_cases hr' : r' < 0
                  · have hq : (tyOf ts x).isSome = false := by rcases HIx'.out with h | h; omega; exact h.2
                    have HF := Lib.hid (show typedB ts mu = false from all_false (by rw [HS1.out.1]; exact hlt) (by rw [HX.out]; exact hq))
                    clear hq
                    go_wp2_with fail
                    go_ret
                    exact ⟨by rw [HE2.out, if_pos (.inl HF.out)]; rfl, HKe.out.low⟩
                  · have hq : (tyOf ts x).isSome = true := by rcases HIx'.out with h | h; exact h.2; omega
                    have HA2 := Lib.hid (show typedB ts (mu.take (j + 1)) = true from all_take HA.out (by rw [HS1.out.1]; exact hlt) (by rw [HX.out]; exact hq))
                    clear hq
                    go_wp2_with fail
                    go_roundw
                    case rel => exact ⟨j + 1, by omega, by go_num, HA2, HKe⟩
                    case measure => simp [intOf]; omega
                · obtain rfl : p1 = j := by omega
                  have e3 : ¬ (p1 : Int) < (p1 : Int) := by omega
                  have HAll := Lib.hid (show typedB ts mu = true by have := HA.out; rwa [List.take_of_length_le (by have := HS1.out.1; omega)] at this)
                  go_wp2_with fail
                  have HM := Lib.hid HAll.out
                  clear HAll HA
                  go_loopw [7] (fun i wr => ∃ j : Nat, j ≤ p2 ∧ i = .int .i64 j ∧ Hid (typedB ts (ma.take j) = true) ∧ Hid (KB w wr ao n cap (some ⟨b, off, none⟩) m dap ⟨⟨cn, sup, mu, ma⟩, .slice a1 p1 q1, .slice a2 p2 q2⟩)) (fun i _ => p2 - (intOf i).toNat)
                  case atStart => exact ⟨0, Nat.zero_le _, rfl, Lib.hid rfl, HKj⟩
                  case round =>
                    clear c0 c1 x0 x1 x2 x3
                    obtain ⟨j, hj, rfl, HA, HKj⟩ := hrel
                    obtain ⟨c0, c1, x0, x1, x2, x3⟩ := HKj.out.cells
                    simp only at x0 x1 x2 x3
                    by_cases hlt : j < p2
                    · obtain ⟨g, o, rfl, hgl, hcs⟩ := (HS2.out.below HKj.out.low).2.2.2 (by omega)
                      have hcell := hcs j (by rw [HS2.out.1]; exact hlt)
                      obtain ⟨x, hx⟩ : ∃ x, partAt ma j = x := ⟨_, rfl⟩
                      have hxs : x.size ≤ 1000000000 := by rw [← hx]; exact hn3 _ (part_mem ma j (by rw [HS2.out.1]; exact hlt))
                      rw [hx] at hcell
                      have HX := Lib.hid hx
                      have e1 : (0 : Int) ≤ (j : Int) := by omega
                      have e2 : (j : Int) < (p2 : Int) := by omega
                      clear hcs hx
                      go_wp2_with fail
                      refine wp_region_still_tail 7 (by kernel_rfl) (by kernel_rfl) ?_
                      simp only [List.take_succ_cons, List.take_zero, List.drop_succ_cons, List.drop_zero]
                      change wpStill _ _ (World.drew _) _ _ _
                      still_step
                      still_step
                      still_step
                      still_step
                      still_step
                      still_step
                      still_step
                      refine wpStill_nil ?_
                      change wpList _ _ _ _ _ (World.drew _)
                      have HKd := Lib.hid (HKj.out.step (Below.refl _ _).drew)
                      clear c0 c1 x0 x1 x2 x3 hcell
                      generalize World.drew _ = Wd at HKd ⊢
                      obtain ⟨c0, c1, x0, x1, x2, x3⟩ := HKd.out.cells
                      simp only at x0 x1 x2 x3
                      have HCt := Lib.hid (typeAt_s ao n cap ts x Wd (HIn.out.1.below HKd.out.low) HIn.out.2.2.1 hxs)
                      go_wp2_with fail
                      refine HCt.out.mono ?_
                      rintro e We ⟨r', rfl, hix, hb⟩
                      have HKe := Lib.hid (HKd.out.step hb)
                      have HIx' := Lib.hid hix.pos
                      clear c0 c1 x0 x1 x2 x3 hb hix HCt
                      obtain ⟨c0, c1, x0, x1, x2, x3⟩ := HKe.out.cells
                      simp only at x0 x1 x2 x3
                      by_cases hr' : r' < 0
                      · have hq : (tyOf ts x).isSome = false := by rcases HIx'.out with h | h; omega; exact h.2
                        have HF := Lib.hid (show typedB ts ma = false from all_false (by rw [HS2.out.1]; exact hlt) (by rw [HX.out]; exact hq))
                        clear hq
                        go_wp2_with fail
                        go_ret
                        exact ⟨by rw [HE2.out, if_pos (.inr HF.out)]; rfl, HKe.out.low⟩
                      · have hq : (tyOf ts x).isSome = true := by rcases HIx'.out with h | h; exact h.2; omega
                        have HA2 := Lib.hid (show typedB ts (ma.take (j + 1)) = true from all_take HA.out (by rw [HS2.out.1]; exact hlt) (by rw [HX.out]; exact hq))
                        clear hq
                        go_wp2_with fail
                        go_roundw
                        case rel => exact ⟨j + 1, by omega, by go_num, HA2, HKe⟩
                        case measure => simp [intOf]; omega
                    · obtain rfl : p2 = j := by omega
                      have e3 : ¬ (p2 : Int) < (p2 : Int) := by omega
                      have HAll := Lib.hid (show typedB ts ma = true by have := HA.out; rwa [List.take_of_length_le (by have := HS2.out.1; omega)] at this)
                      go_wp2_with fail
                      go_ret
                      exact ⟨by rw [HE2.out, if_neg (by rw [HM.out, HAll.out]; simp)]; rfl, HKj.out.low⟩
end Go.Proofs.YtclfjdnemafmeaaGreatDoor
end

section
/-
  Contract of the laws' guard few at schema. No condition.
-/
set_option maxRecDepth 100000
namespace Go.Proofs.YtclfjdnemafmeaaGreatDoor
open Go.RowKit Go.PlainAid
/-- what a guard that lays boxes answers -/
structure GuardB (G : Prop) (w : World) (e : Ending) (w' : World) : Prop where
  ans : ∃ b : Bool, e = .returned (.bool b) ∧ (b = true → G) ∧ Below w.heap.size w w'
theorem guardB_no {G : Prop} {w w' : World} (h : Below w.heap.size w w') : GuardB G w (.returned (.bool false)) w' := ⟨⟨false, rfl, (fun e => by cases e), h⟩⟩
theorem guardB_yes {G : Prop} {w w' : World} (g : G) (h : Below w.heap.size w w') : GuardB G w (.returned (.bool true)) w' := ⟨⟨true, rfl, fun _ => g, h⟩⟩
/-- a class of at most 70 names of at most 70 bytes -/
structure ClS (c : Cl) : Prop where
  nm : c.name.size ≤ 70
  sup : c.super.size ≤ 70
  must : Short7 c.must
  may : Short7 c.may
/-- what few asks -/
structure FewS (ts : List Ty) (cs : List Cl) : Prop where
  lt : ts.length ≤ 70
  tys : ∀ t ∈ ts, t.name.size ≤ 70
  lc : cs.length ≤ 40
  cls : ∀ c ∈ cs, ClS c
theorem FewS.smT {ts : List Ty} {cs : List Cl} (h : FewS ts cs) : SmT ts := fun t ht => by have := h.tys t ht; omega
theorem FewS.smC {ts : List Ty} {cs : List Cl} (h : FewS ts cs) : SmC cs := fun c hc => by
  have k := h.cls c hc
  have k1 := k.nm
  have k2 := k.sup
  exact ⟨by omega, by omega, fun s hs => by have := k.must.each s hs; omega, fun s hs => by have := k.may.each s hs; omega⟩
/-- the box of a schema -/
structure FB (w W : World) (ao : Option Addr) (n cap : Nat) (bo : Option Addr) (m dap : Nat) : Prop where
  box : W.heap[w.heap.size]? = some (.cells #[.slice ao n cap, .slice bo m dap] 25)
  low : Below w.heap.size w W
  big : w.heap.size < W.heap.size
theorem FB.step {w W V : World} {ao : Option Addr} {n cap : Nat} {bo : Option Addr} {m dap : Nat} (h : FB w W ao n cap bo m dap) (hb : Below W.heap.size W V) : FB w V ao n cap bo m dap :=
  ⟨(hb.block _ h.big).trans h.box, h.low.trans (hb.mono h.low.size), Nat.lt_of_lt_of_le h.big hb.size⟩
theorem FB.cells {w W : World} {ao : Option Addr} {n cap : Nat} {bo : Option Addr} {m dap : Nat} (h : FB w W ao n cap bo m dap) : W.cell? ⟨w.heap.size, 0, none⟩ = some (.slice ao n cap) ∧ W.cell? ⟨w.heap.size, 1, none⟩ = some (.slice bo m dap) :=
  ⟨heap_cell h.box rfl, heap_cell h.box rfl⟩
theorem fb_new (w : World) (ao : Option Addr) (n cap : Nat) (bo : Option Addr) (m dap : Nat) : FB w (w.alloc (.cells #[.slice ao n cap, .slice bo m dap] 25)) ao n cap bo m dap :=
  ⟨heap_alloc_new w _, (Below.refl _ _).alloc (Nat.le_refl _) _, by simp⟩
set_option maxHeartbeats 4000000 in
theorem few_s (ao : Option Addr) (n cap : Nat) (ts : List Ty) (bo : Option Addr) (m dap : Nat) (cs : List Cl) (w : World) (hT : TysAt w ao n cap ts) (rT : RTy ts) (hC : ClsAt w bo m dap cs) (rC : RCl cs) :
    Calls Tryz.prog 11 #[.agg #[.slice ao n cap, .slice bo m dap]] w fun e w' => GuardB (FewS ts cs) w e w' := by
  have HT := Lib.hid hT
  have HC := Lib.hid hC
  have HRT := Lib.hid rT
  have HRC := Lib.hid rC
  have htl := hT.1
  have hcl := hC.1
  have htx := hT.2.2.1
  have hcx := hC.2.2.1
  have htn := hT.2.1
  have hcn := hC.2.1
  unfold maxLen at htx hcx
  have HTL := Lib.hid htl
  have HCL := Lib.hid hcl
  clear hT hC rT rC htl hcl
  have HK0 := Lib.hid (fb_new w ao n cap bo m dap)
  go_enter Tryz.func11, Tryz.ntmps11
  go_wp2_with fail
  generalize w.alloc (.cells #[.slice ao n cap, .slice bo m dap] 25) = W1 at HK0 ⊢
  obtain ⟨c0, c1⟩ := HK0.out.cells
  go_loop [3] (fun i => ∃ k : Nat, k ≤ n ∧ i = .int .i64 k ∧ Hid (∀ t ∈ ts.take k, t.name.size ≤ 70)) (fun i => n - (intOf i).toNat)
  case atStart => exact ⟨0, Nat.zero_le _, rfl, Lib.hid (fun v hv => by rw [List.take_zero] at hv; exact absurd hv List.not_mem_nil)⟩
  case round =>
    obtain ⟨k, hk, rfl, HV⟩ := hrel
    by_cases hlt : k < n
    · have d1 : decide ((k : Int) < (n : Int)) = true := decide_eq_true (by omega)
      have d0 : (0 : Int) ≤ (k : Int) := by omega
      have d3 : (k : Int) < (n : Int) := by omega
      obtain ⟨b, off, rfl, hbl, hs⟩ := (HT.out.below HK0.out.low).2.2.2 (by omega)
      have hcell := (hs k hlt).1
      clear hs
      have hps := HRT.out _ (ty_mem ts k (by rw [HTL.out]; exact hlt))
      have HTk := Lib.hid (ty_take ts k (by rw [HTL.out]; exact hlt))
      obtain ⟨T, hT⟩ : ∃ x, tyAt ts k = x := ⟨_, rfl⟩
      rw [hT] at hcell hps HTk
      clear hT
      obtain ⟨p, hp⟩ : ∃ x, T.name = x := ⟨_, rfl⟩
      rw [hp] at hcell hps
      have HP := Lib.hid hp
      clear hp
      by_cases h7 : 70 < p.size
      · have d4 : decide ((70 : Int) < (p.size : Int)) = true := decide_eq_true (by omega)
        go_wp2_with fail
        go_ret
        exact guardB_no HK0.out.low
      · have d4 : decide ((70 : Int) < (p.size : Int)) = false := decide_eq_false (by omega)
        have HV2 := Lib.hid (show ∀ t ∈ ts.take (k + 1), t.name.size ≤ 70 from fun v hv => by
          rw [HTk.out] at hv
          rcases List.mem_append.1 hv with q | q
          · exact HV.out v q
          · rw [List.mem_singleton.1 q, HP.out]; omega)
        go_wp2_with fail
        go_round
        case rel => exact ⟨k + 1, by omega, by go_num, HV2⟩
        case measure => simp [intOf]; omega
    · obtain rfl : n = k := by omega
      have d1 : decide ((n : Int) < (n : Int)) = false := decide_eq_false (by omega)
      have HVT := Lib.hid (show ∀ t ∈ ts, t.name.size ≤ 70 by have := HV.out; rwa [List.take_of_length_le (by rw [HTL.out]; exact Nat.le_refl _)] at this)
      clear HV d1
      go_wp2_with fail
      go_loopw [4, 5] (fun i s5 wr => ∃ j : Nat, j ≤ m ∧ i = .int .i64 j ∧ Hid (∀ c ∈ cs.take j, ClS c) ∧ Hid (FB w wr ao n cap bo m dap)) (fun i _ _ => m - (intOf i).toNat)
      case atStart => exact ⟨0, Nat.zero_le _, rfl, Lib.hid (fun v hv => by rw [List.take_zero] at hv; exact absurd hv List.not_mem_nil), HK0⟩
      case round =>
        clear c0 c1
        obtain ⟨j, hj, rfl, HV, HKj⟩ := hrel
        obtain ⟨c0, c1⟩ := HKj.out.cells
        by_cases hlt : j < m
        · have d1 : decide ((j : Int) < (m : Int)) = true := decide_eq_true (by omega)
          have d0 : (0 : Int) ≤ (j : Int) := by omega
          have d3 : (j : Int) < (m : Int) := by omega
          obtain ⟨b, off, rfl, hbl, hs⟩ := (HC.out.below HKj.out.low).2.2.2 (by omega)
          obtain ⟨y0, y1, ⟨a1, p1, q1, y2, hS1⟩, a2, p2, q2, y3, hS2⟩ := hs j hlt
          clear hs
          obtain ⟨hn0, hn1, hn2, hn3⟩ := HRC.out _ (cl_mem cs j (by rw [HCL.out]; exact hlt))
          have HTk := Lib.hid (cl_take cs j (by rw [HCL.out]; exact hlt))
          obtain ⟨C, hC⟩ : ∃ x, clAt cs j = x := ⟨_, rfl⟩
          rw [hC] at y0 y1 hS1 hS2 hn0 hn1 hn2 hn3 HTk
          clear hC
          obtain ⟨cn, sup, mu, ma⟩ := C
          simp only at y0 y1 hS1 hS2 hn0 hn1 hn2 hn3
          have HB1 := Lib.hid ((Below.refl wr.heap.size wr).alloc (Nat.le_refl _) (.cells #[.string cn, .string sup, .slice a1 p1 q1, .slice a2 p2 q2] 57))
          have HQ1 := Lib.hid (short7_s a1 p1 q1 mu _ (hS1.below HB1.out) hn2)
          have HQ2 := Lib.hid (short7_s a2 p2 q2 ma _ (hS2.below HB1.out) hn3)
          have HKn := Lib.hid (HKj.out.step HB1.out)
          clear hS1 hS2 hn2 hn3
          by_cases h1 : 70 < cn.size
          · have d4 : decide ((70 : Int) < (cn.size : Int)) = true := decide_eq_true (by omega)
            go_wp2_with fail
            go_ret
            exact guardB_no HKn.out.low
          · have d4 : decide ((70 : Int) < (cn.size : Int)) = false := decide_eq_false (by omega)
            by_cases h2 : 70 < sup.size
            · have d5 : decide ((70 : Int) < (sup.size : Int)) = true := decide_eq_true (by omega)
              go_wp2_with fail
              go_ret
              exact guardB_no HKn.out.low
            · have d5 : decide ((70 : Int) < (sup.size : Int)) = false := decide_eq_false (by omega)
              go_wp2_with fail
              refine HQ1.out.mono ?_
              rintro e W2 ⟨⟨g1, rfl, hg1, rfl⟩⟩
              cases g1
              · go_wp2_with fail
                go_ret
                exact guardB_no HKn.out.low
              · have HG1 := Lib.hid (hg1 rfl)
                clear hg1
                go_wp2_with fail
                refine HQ2.out.mono ?_
                rintro e W3 ⟨⟨g2, rfl, hg2, rfl⟩⟩
                cases g2
                · go_wp2_with fail
                  go_ret
                  exact guardB_no HKn.out.low
                · have HG2 := Lib.hid (hg2 rfl)
                  clear hg2
                  have HV2 := Lib.hid (show ∀ c ∈ cs.take (j + 1), ClS c from fun v hv => by
                    rw [HTk.out] at hv
                    rcases List.mem_append.1 hv with q | q
                    · exact HV.out v q
                    · rw [List.mem_singleton.1 q]; exact ⟨Nat.not_lt.1 h1, Nat.not_lt.1 h2, HG1.out, HG2.out⟩)
                  go_wp2_with fail
                  go_roundw
                  case rel => exact ⟨j + 1, by omega, by go_num, HV2, HKn⟩
                  case measure => simp [intOf]; omega
        · obtain rfl : m = j := by omega
          have d1 : decide ((m : Int) < (m : Int)) = false := decide_eq_false (by omega)
          have HVC := Lib.hid (show ∀ c ∈ cs, ClS c by have := HV.out; rwa [List.take_of_length_le (by rw [HCL.out]; exact Nat.le_refl _)] at this)
          by_cases h5 : n ≤ 70
          · have d4 : decide ((n : Int) ≤ (70 : Int)) = true := decide_eq_true (by omega)
            by_cases h6 : m ≤ 40
            · have d5 : decide ((m : Int) ≤ (40 : Int)) = true := decide_eq_true (by omega)
              have HG := Lib.hid (show FewS ts cs from ⟨by rw [HTL.out]; exact h5, HVT.out, by rw [HCL.out]; exact h6, HVC.out⟩)
              go_wp2_with fail
              go_ret
              exact guardB_yes HG.out HKj.out.low
            · have d5 : decide ((m : Int) ≤ (40 : Int)) = false := decide_eq_false (by omega)
              go_wp2_with fail
              go_ret
              exact guardB_no HKj.out.low
          · have d4 : decide ((n : Int) ≤ (70 : Int)) = false := decide_eq_false (by omega)
            go_wp2_with fail
            go_ret
            exact guardB_no HKj.out.low
end Go.Proofs.YtclfjdnemafmeaaGreatDoor
end
