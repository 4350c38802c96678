/-
  Texts of the schema layer and of those beneath it, joined: SchCln, SchTyF, SchTxt, SchTxF, SchRd, SchMay. Conditions stand at each contract.
-/
import Derived.Test.YtmmdaegdkikkpaaGreatDoorP06
import Derived.Test.YtmmdaegdkikkpaaGreatDoorP11
import Derived.Test.YtmmdaegdkikkpaaGreatDoorP12
set_option linter.unusedVariables false
set_option linter.unusedSimpArgs false
set_option linter.unnecessarySimpa false

section
/-
  Contract of schema's classLine. Condition: names of at most 100000 bytes, lists of at most 1000 names.
-/
set_option maxRecDepth 100000
namespace Go.Proofs.YtmmdaegdkikkpaaGreatDoor
open Go.RowKit Go.PlainAid
def dashN : ByteArray := ⟨#[45]⟩
def superW (s : ByteArray) : ByteArray := if s.size = 0 then dashN else s
def classLn (c : Cl) : ByteArray := joinB 32 [classN, c.name, superW c.super, listW c.must, listW c.may] ++ ⟨#[10]⟩
theorem listW_size {l : List ByteArray} (hl : l.length ≤ 1000) (hz : ∀ s ∈ l, s.size ≤ 100000) : (listW l).size ≤ 1000000000 := by
  unfold listW
  split
  · decide
  · have := join_le 44 100000 (l.map (·.data.toList)) (fun x hx => by
      obtain ⟨s, hs, rfl⟩ := List.mem_map.1 hx
      have := hz s hs
      rw [← Lib.size_eq]; exact this)
    rw [List.length_map] at this
    have h5 : l.length * (100000 + 1) ≤ 1000 * 100001 := Nat.mul_le_mul_right _ hl
    unfold joinB
    rw [Lib.size_mk]; omega
theorem own_five (w : World) (a b c d e : ByteArray) : (w.alloc (.cells #[.string a, .string b, .string c, .string d, .string e] 9)).ownsRow w.heap.size 9 1 (.slice (some ⟨w.heap.size, 0, none⟩) 5 5) 5 (scells [a, b, c, d, e]) :=
  ⟨rfl, .inr ⟨w.heap.size, 5, _, rfl, Nat.le_refl _, heap_alloc_new w _, Nat.le_refl _, by unfold maxLen; omega, rfl, rfl⟩⟩
theorem keepL3 {w w1 w2 : World} {f : Nat} {A B C : Addr} {x y z : Value} (h : w1.cell? A = some x ∧ w1.cell? B = some y ∧ w1.cell? C = some z ∧ Hid (Below f w w1 ∧ f < w1.heap.size)) (hb : Below w1.heap.size w1 w2) :
    w2.cell? A = some x ∧ w2.cell? B = some y ∧ w2.cell? C = some z ∧ Hid (Below f w w2 ∧ f < w2.heap.size) :=
  ⟨cell_later hb h.1, cell_later hb h.2.1, cell_later hb h.2.2.1, Lib.hid ⟨h.2.2.2.out.1.trans (hb.mono (Nat.le_of_lt h.2.2.2.out.2)), Nat.lt_of_lt_of_le h.2.2.2.out.2 hb.size⟩⟩
set_option maxHeartbeats 8000000 in
theorem classLine_s (c : Cl) (a1 a2 : Option Addr) (p1 q1 p2 q2 : Nat) (w : World) (hm : StrsAt w a1 p1 q1 c.must) (hy : StrsAt w a2 p2 q2 c.may) (hz : c.name.size ≤ 100000) (hz2 : c.super.size ≤ 100000) (hz3 : ∀ s ∈ c.must, s.size ≤ 100000) (hz4 : ∀ s ∈ c.may, s.size ≤ 100000) (hl1 : p1 ≤ 1000) (hl2 : p2 ≤ 1000) :
    Calls Tryz.prog 57 #[.agg #[.string c.name, .string c.super, .slice a1 p1 q1, .slice a2 p2 q2]] w fun e w' => e = .returned (.string (classLn c)) ∧ Below w.heap.size w w' := by
  obtain ⟨nm, su, ms, ys⟩ := c
  simp only at hm hy hz hz2 hz3 hz4 ⊢
  have HC1 := Lib.hid (fun (W : World) (hW : Below w.heap.size w W) => listWord_s a1 p1 q1 ms W (hm.below hW) hl1 (fun s hs => Nat.le_trans (hz3 s hs) (by decide)))
  have HC2 := Lib.hid (fun (W : World) (hW : Below w.heap.size w W) => listWord_s a2 p2 q2 ys W (hy.below hW) hl2 (fun s hs => Nat.le_trans (hz4 s hs) (by decide)))
  have hlm := listW_size (l := ms) (by rw [hm.1]; exact hl1) hz3
  have hly := listW_size (l := ys) (by rw [hy.1]; exact hl2) hz4
  obtain ⟨sw, hsw⟩ : ∃ s, superW su = s := ⟨_, rfl⟩
  have hsz : sw.size ≤ 1000000000 := by rw [← hsw]; unfold superW; split; decide; omega
  obtain ⟨lm, hlme⟩ : ∃ s, listW ms = s := ⟨_, rfl⟩
  obtain ⟨ly, hlye⟩ : ∃ s, listW ys = s := ⟨_, rfl⟩
  rw [hlme] at HC1 hlm
  rw [hlye] at HC2 hly
  have HE := Lib.hid (show classLn ⟨nm, su, ms, ys⟩ = joinB 32 [classN, nm, sw, lm, ly] ++ ⟨#[10]⟩ by unfold classLn; simp only; rw [hsw, hlme, hlye])
  have HZS := Lib.hid (show ∀ s ∈ [classN, nm, sw, lm, ly], s.size ≤ 1000000000 by
    intro s hs
    simp only [List.mem_cons, List.not_mem_nil, or_false] at hs
    rcases hs with rfl | rfl | rfl | rfl | rfl
    · decide
    · omega
    · exact hsz
    · exact hlm
    · exact hly)
  clear hm hy hz3 hz4 hlme hlye hlm hly
  have HB0 := Lib.hid ((Below.refl w.heap.size w).alloc (Nat.le_refl _) (.cells #[.string nm, .string su, .slice a1 p1 q1, .slice a2 p2 q2] 64))
  have S0 : (w.alloc (.cells #[.string nm, .string su, .slice a1 p1 q1, .slice a2 p2 q2] 64)).drew.cell? ⟨w.heap.size, 0, none⟩ = some (.string nm) ∧ (w.alloc (.cells #[.string nm, .string su, .slice a1 p1 q1, .slice a2 p2 q2] 64)).drew.cell? ⟨w.heap.size, 2, none⟩ = some (.slice a1 p1 q1) ∧ (w.alloc (.cells #[.string nm, .string su, .slice a1 p1 q1, .slice a2 p2 q2] 64)).drew.cell? ⟨w.heap.size, 3, none⟩ = some (.slice a2 p2 q2) ∧ Hid (Below w.heap.size w (w.alloc (.cells #[.string nm, .string su, .slice a1 p1 q1, .slice a2 p2 q2] 64)).drew ∧ w.heap.size < (w.alloc (.cells #[.string nm, .string su, .slice a1 p1 q1, .slice a2 p2 q2] 64)).drew.heap.size) :=
    ⟨by go_simp, by go_simp, by go_simp, Lib.hid ⟨HB0.out.drew, by show _ < (w.alloc _).heap.size; simp⟩⟩
  obtain ⟨eb, heb⟩ : ∃ b, su.toList.isEmpty = b := ⟨_, rfl⟩
  have hes := str_none su
  rw [heb] at hes
  have hcase : (eb = true ∧ sw = dashN) ∨ (eb = false ∧ sw = su) := by
    rw [← hsw]; unfold superW
    cases eb
    · exact .inr ⟨rfl, if_neg (by have := of_decide_eq_false hes.symm; exact this)⟩
    · exact .inl ⟨rfl, if_pos (of_decide_eq_true hes.symm)⟩
  clear hes hsw
  rcases hcase with ⟨rfl, h⟩ | ⟨rfl, h⟩
  · rw [h] at HE HZS
    clear h hsz
    go_enter Tryz.func57, Tryz.ntmps57
    go_wp2_with fail
    refine wp_region_held_drew (S := fun W => W.cell? ⟨w.heap.size, 0, none⟩ = some (.string nm) ∧ W.cell? ⟨w.heap.size, 2, none⟩ = some (.slice a1 p1 q1) ∧ W.cell? ⟨w.heap.size, 3, none⟩ = some (.slice a2 p2 q2) ∧ Hid (Below w.heap.size w W ∧ w.heap.size < W.heap.size)) (by kernel_rfl) (S0) (fun hS => ?_)
    refine wpAnyH_take (i := 0) (oi := { dst := some 9, op := _, type := _, pos := _, after := _, guard := _ }) (v := ?_) rfl (by kernel_rfl) (by kernel_rfl) (by kernel_rfl) (fun _ _ _ h => h) (Or.inl ⟨by rfl, ?_⟩) (by assumption) ?_
    rotate_left
    · intro w hSw
      try dsimp only at hSw
      go_simp
      try with_reducible rfl
    try simp only [Act.put, List.setIfInBounds_toArray, List.set_cons_zero, List.set_cons_succ]
    refine wpAnyH_take (i := 1) (oi := { dst := some 10, op := _, type := _, pos := _, after := _, guard := _ }) (v := ?_) rfl (by kernel_rfl) (by kernel_rfl) (by kernel_rfl) (fun _ _ _ h => h) (Or.inl ⟨by rfl, ?_⟩) (by assumption) ?_
    rotate_left
    · intro w hSw
      try dsimp only at hSw
      go_simp
      try with_reducible rfl
    try simp only [Act.put, List.setIfInBounds_toArray, List.set_cons_zero, List.set_cons_succ]
    refine wpAnyH_take (i := 2) (oi := { dst := some 11, op := _, type := _, pos := _, after := _, guard := _ }) (v := ?_) rfl (by kernel_rfl) (by kernel_rfl) (by kernel_rfl) (fun _ _ _ h => h) (Or.inl ⟨by rfl, ?_⟩) (by assumption) ?_
    rotate_left
    · intro w hSw
      try dsimp only at hSw
      go_simp
      try with_reducible rfl
    try simp only [Act.put, List.setIfInBounds_toArray, List.set_cons_zero, List.set_cons_succ]
    refine wpAnyH_take (i := 3) (oi := { dst := some 12, op := _, type := _, pos := _, after := _, guard := _ }) (v := ?_) rfl (by kernel_rfl) (by kernel_rfl) (by kernel_rfl) (fun _ _ _ h => h) (Or.inl ⟨by rfl, ?_⟩) (by assumption) ?_
    rotate_left
    · intro w hSw
      try dsimp only at hSw
      go_simp
      try with_reducible rfl
    try simp only [Act.put, List.setIfInBounds_toArray, List.set_cons_zero, List.set_cons_succ]
    refine wpAnyH_take (i := 4) (oi := { dst := some 13, op := _, type := _, pos := _, after := _, guard := _ }) (v := ?_) rfl (by kernel_rfl) (by kernel_rfl) (by kernel_rfl) (fun _ _ _ h => h) (Or.inl ⟨by rfl, ?_⟩) (by assumption) ?_
    rotate_left
    · intro w hSw
      try dsimp only at hSw
      go_simp
      try with_reducible rfl
    try simp only [Act.put, List.setIfInBounds_toArray, List.set_cons_zero, List.set_cons_succ]
    refine wpAnyH_take (i := 6) (oi := { dst := some 15, op := _, type := _, pos := _, after := _, guard := _ }) (v := ?_) rfl (by kernel_rfl) (by kernel_rfl) (by kernel_rfl) (fun _ _ _ h => h) (Or.inl ⟨by rfl, ?_⟩) (by assumption) ?_
    rotate_left
    · intro w hSw
      try dsimp only at hSw
      go_simp
      try with_reducible rfl
    try simp only [Act.put, List.setIfInBounds_toArray, List.set_cons_zero, List.set_cons_succ]
    refine wpAnyH_take (i := 7) (oi := { dst := some 16, op := _, type := _, pos := _, after := _, guard := _ }) (v := ?_) rfl (by kernel_rfl) (by kernel_rfl) (by kernel_rfl) (fun _ _ _ h => h) (Or.inl ⟨by rfl, ?_⟩) (by assumption) ?_
    rotate_left
    · intro w hSw
      try dsimp only at hSw
      go_simp
      try with_reducible rfl
    try simp only [Act.put, List.setIfInBounds_toArray, List.set_cons_zero, List.set_cons_succ]
    refine wpAnyH_ready (rs := [5]) (by kernel_rfl) (by simp) ?_
    refine AllReadyH.cons rfl (fun K hK => ?_) AllReadyH.nil
    go_simp
    refine (HC1.out _ hS.2.2.2.out.1).mono ?_
    rintro e w5 ⟨rfl, hb⟩
    go_wp2_with fail
    refine hK.out _ _ ?_ (fun hHeld => ?_)
    · exact keepL3 hS hb
    clear hK K
    try simp only [Act.put, List.setIfInBounds_toArray, List.set_cons_zero, List.set_cons_succ]
    refine wpAnyH_ready (rs := [8]) (by kernel_rfl) (by simp) ?_
    refine AllReadyH.cons rfl (fun K hK => ?_) AllReadyH.nil
    go_simp
    refine (HC2.out _ hHeld.2.2.2.out.1).mono ?_
    rintro e w8 ⟨rfl, hb⟩
    have HBf := Lib.hid (show Below w.heap.size w w8 ∧ w.heap.size < w8.heap.size from ⟨hHeld.2.2.2.out.1.trans (hb.mono (Nat.le_of_lt hHeld.2.2.2.out.2)), Nat.lt_of_lt_of_le hHeld.2.2.2.out.2 hb.size⟩)
    go_wp2_with fail
    refine hK.out _ _ ?_ (fun hHeld => ?_)
    · exact keepL3 hHeld hb
    clear hK K
    try simp only [Act.put, List.setIfInBounds_toArray, List.set_cons_zero, List.set_cons_succ]
    refine wpAnyH_ready (rs := [9]) (by kernel_rfl) (by simp) ?_
    refine AllReadyH.cons rfl (fun K hK => ?_) AllReadyH.nil
    go_simp
    refine hK.out _ _ ?_ (fun hHeld => ?_)
    · exact keepL3 hHeld ((Below.refl _ _).alloc (Nat.le_refl _) _)
    clear hK K
    try simp only [Act.put, List.setIfInBounds_toArray, List.set_cons_zero, List.set_cons_succ]
    refine wpAnyH_take (i := 10) (oi := { dst := some 4, op := _, type := _, pos := _, after := _, guard := _ }) (v := ?_) rfl (by kernel_rfl) (by kernel_rfl) (by kernel_rfl) (fun _ _ _ h => h) (Or.inl ⟨by rfl, ?_⟩) (by assumption) ?_
    rotate_left
    · intro w hSw
      try dsimp only at hSw
      go_simp
      try with_reducible rfl
    try simp only [Act.put, List.setIfInBounds_toArray, List.set_cons_zero, List.set_cons_succ]
    refine wpAnyH_done (by kernel_rfl) ?_ _
    have hown := own_five w8 classN nm dashN lm ly
    have HBg := Lib.hid (show Below w.heap.size w (w8.alloc (.cells #[.string classN, .string nm, .string dashN, .string lm, .string ly] 9)) from HBf.out.1.alloc (Nat.le_of_lt HBf.out.2) _)
    obtain ⟨ao, cap, e, hST⟩ := strs_own hown rfl
    simp only [Value.slice.injEq] at e
    obtain ⟨rfl, _, rfl⟩ := e
    have HJ := Lib.hid (joinF_s 32 _ 5 5 _ _ hST (by decide) (by decide) HZS.out)
    have hjz := joinB_size (sep := 32) (l := [classN, nm, dashN, lm, ly]) (by simp) HZS.out
    obtain ⟨js, hjs⟩ : ∃ s, joinB 32 [classN, nm, dashN, lm, ly] = s := ⟨_, rfl⟩
    rw [hjs] at hjz HE HJ
    have hj1 : ¬ (9223372036854775807 < js.size + 1) := by omega
    clear hown hST hjs
    unfold classN dashN at HJ HBg
    go_wp2_with fail
    refine HJ.out.mono ?_
    rintro e w9 ⟨rfl, hb9⟩
    have HBh := Lib.hid (HBg.out.trans (hb9.mono HBg.out.size))
    clear hb9
    go_wp2_with fail
    go_ret
    exact ⟨by rw [HE.out]; rfl, HBh.out⟩
  · rw [h] at HE HZS
    clear h hsz
    go_enter Tryz.func57, Tryz.ntmps57
    go_wp2_with fail
    refine wp_region_held_drew (S := fun W => W.cell? ⟨w.heap.size, 0, none⟩ = some (.string nm) ∧ W.cell? ⟨w.heap.size, 2, none⟩ = some (.slice a1 p1 q1) ∧ W.cell? ⟨w.heap.size, 3, none⟩ = some (.slice a2 p2 q2) ∧ Hid (Below w.heap.size w W ∧ w.heap.size < W.heap.size)) (by kernel_rfl) (S0) (fun hS => ?_)
    refine wpAnyH_take (i := 0) (oi := { dst := some 9, op := _, type := _, pos := _, after := _, guard := _ }) (v := ?_) rfl (by kernel_rfl) (by kernel_rfl) (by kernel_rfl) (fun _ _ _ h => h) (Or.inl ⟨by rfl, ?_⟩) (by assumption) ?_
    rotate_left
    · intro w hSw
      try dsimp only at hSw
      go_simp
      try with_reducible rfl
    try simp only [Act.put, List.setIfInBounds_toArray, List.set_cons_zero, List.set_cons_succ]
    refine wpAnyH_take (i := 1) (oi := { dst := some 10, op := _, type := _, pos := _, after := _, guard := _ }) (v := ?_) rfl (by kernel_rfl) (by kernel_rfl) (by kernel_rfl) (fun _ _ _ h => h) (Or.inl ⟨by rfl, ?_⟩) (by assumption) ?_
    rotate_left
    · intro w hSw
      try dsimp only at hSw
      go_simp
      try with_reducible rfl
    try simp only [Act.put, List.setIfInBounds_toArray, List.set_cons_zero, List.set_cons_succ]
    refine wpAnyH_take (i := 2) (oi := { dst := some 11, op := _, type := _, pos := _, after := _, guard := _ }) (v := ?_) rfl (by kernel_rfl) (by kernel_rfl) (by kernel_rfl) (fun _ _ _ h => h) (Or.inl ⟨by rfl, ?_⟩) (by assumption) ?_
    rotate_left
    · intro w hSw
      try dsimp only at hSw
      go_simp
      try with_reducible rfl
    try simp only [Act.put, List.setIfInBounds_toArray, List.set_cons_zero, List.set_cons_succ]
    refine wpAnyH_take (i := 3) (oi := { dst := some 12, op := _, type := _, pos := _, after := _, guard := _ }) (v := ?_) rfl (by kernel_rfl) (by kernel_rfl) (by kernel_rfl) (fun _ _ _ h => h) (Or.inl ⟨by rfl, ?_⟩) (by assumption) ?_
    rotate_left
    · intro w hSw
      try dsimp only at hSw
      go_simp
      try with_reducible rfl
    try simp only [Act.put, List.setIfInBounds_toArray, List.set_cons_zero, List.set_cons_succ]
    refine wpAnyH_take (i := 4) (oi := { dst := some 13, op := _, type := _, pos := _, after := _, guard := _ }) (v := ?_) rfl (by kernel_rfl) (by kernel_rfl) (by kernel_rfl) (fun _ _ _ h => h) (Or.inl ⟨by rfl, ?_⟩) (by assumption) ?_
    rotate_left
    · intro w hSw
      try dsimp only at hSw
      go_simp
      try with_reducible rfl
    try simp only [Act.put, List.setIfInBounds_toArray, List.set_cons_zero, List.set_cons_succ]
    refine wpAnyH_take (i := 6) (oi := { dst := some 15, op := _, type := _, pos := _, after := _, guard := _ }) (v := ?_) rfl (by kernel_rfl) (by kernel_rfl) (by kernel_rfl) (fun _ _ _ h => h) (Or.inl ⟨by rfl, ?_⟩) (by assumption) ?_
    rotate_left
    · intro w hSw
      try dsimp only at hSw
      go_simp
      try with_reducible rfl
    try simp only [Act.put, List.setIfInBounds_toArray, List.set_cons_zero, List.set_cons_succ]
    refine wpAnyH_take (i := 7) (oi := { dst := some 16, op := _, type := _, pos := _, after := _, guard := _ }) (v := ?_) rfl (by kernel_rfl) (by kernel_rfl) (by kernel_rfl) (fun _ _ _ h => h) (Or.inl ⟨by rfl, ?_⟩) (by assumption) ?_
    rotate_left
    · intro w hSw
      try dsimp only at hSw
      go_simp
      try with_reducible rfl
    try simp only [Act.put, List.setIfInBounds_toArray, List.set_cons_zero, List.set_cons_succ]
    refine wpAnyH_ready (rs := [5]) (by kernel_rfl) (by simp) ?_
    refine AllReadyH.cons rfl (fun K hK => ?_) AllReadyH.nil
    go_simp
    refine (HC1.out _ hS.2.2.2.out.1).mono ?_
    rintro e w5 ⟨rfl, hb⟩
    go_wp2_with fail
    refine hK.out _ _ ?_ (fun hHeld => ?_)
    · exact keepL3 hS hb
    clear hK K
    try simp only [Act.put, List.setIfInBounds_toArray, List.set_cons_zero, List.set_cons_succ]
    refine wpAnyH_ready (rs := [8]) (by kernel_rfl) (by simp) ?_
    refine AllReadyH.cons rfl (fun K hK => ?_) AllReadyH.nil
    go_simp
    refine (HC2.out _ hHeld.2.2.2.out.1).mono ?_
    rintro e w8 ⟨rfl, hb⟩
    have HBf := Lib.hid (show Below w.heap.size w w8 ∧ w.heap.size < w8.heap.size from ⟨hHeld.2.2.2.out.1.trans (hb.mono (Nat.le_of_lt hHeld.2.2.2.out.2)), Nat.lt_of_lt_of_le hHeld.2.2.2.out.2 hb.size⟩)
    go_wp2_with fail
    refine hK.out _ _ ?_ (fun hHeld => ?_)
    · exact keepL3 hHeld hb
    clear hK K
    try simp only [Act.put, List.setIfInBounds_toArray, List.set_cons_zero, List.set_cons_succ]
    refine wpAnyH_ready (rs := [9]) (by kernel_rfl) (by simp) ?_
    refine AllReadyH.cons rfl (fun K hK => ?_) AllReadyH.nil
    go_simp
    refine hK.out _ _ ?_ (fun hHeld => ?_)
    · exact keepL3 hHeld ((Below.refl _ _).alloc (Nat.le_refl _) _)
    clear hK K
    try simp only [Act.put, List.setIfInBounds_toArray, List.set_cons_zero, List.set_cons_succ]
    refine wpAnyH_take (i := 10) (oi := { dst := some 4, op := _, type := _, pos := _, after := _, guard := _ }) (v := ?_) rfl (by kernel_rfl) (by kernel_rfl) (by kernel_rfl) (fun _ _ _ h => h) (Or.inl ⟨by rfl, ?_⟩) (by assumption) ?_
    rotate_left
    · intro w hSw
      try dsimp only at hSw
      go_simp
      try with_reducible rfl
    try simp only [Act.put, List.setIfInBounds_toArray, List.set_cons_zero, List.set_cons_succ]
    refine wpAnyH_done (by kernel_rfl) ?_ _
    have hown := own_five w8 classN nm su lm ly
    have HBg := Lib.hid (show Below w.heap.size w (w8.alloc (.cells #[.string classN, .string nm, .string su, .string lm, .string ly] 9)) from HBf.out.1.alloc (Nat.le_of_lt HBf.out.2) _)
    obtain ⟨ao, cap, e, hST⟩ := strs_own hown rfl
    simp only [Value.slice.injEq] at e
    obtain ⟨rfl, _, rfl⟩ := e
    have HJ := Lib.hid (joinF_s 32 _ 5 5 _ _ hST (by decide) (by decide) HZS.out)
    have hjz := joinB_size (sep := 32) (l := [classN, nm, su, lm, ly]) (by simp) HZS.out
    obtain ⟨js, hjs⟩ : ∃ s, joinB 32 [classN, nm, su, lm, ly] = s := ⟨_, rfl⟩
    rw [hjs] at hjz HE HJ
    have hj1 : ¬ (9223372036854775807 < js.size + 1) := by omega
    clear hown hST hjs
    unfold classN at HJ HBg
    go_wp2_with fail
    refine HJ.out.mono ?_
    rintro e w9 ⟨rfl, hb9⟩
    have HBh := Lib.hid (HBg.out.trans (hb9.mono HBg.out.size))
    clear hb9
    go_wp2_with fail
    go_ret
    exact ⟨by rw [HE.out]; rfl, HBh.out⟩
end Go.Proofs.YtmmdaegdkikkpaaGreatDoor
end

section
/-
  Contracts of schema's Check and Type. Condition: names of at most 1000000000 bytes.
-/
set_option maxRecDepth 100000
namespace Go.Proofs.YtmmdaegdkikkpaaGreatDoor
open Go.RowKit Go.PlainAid
set_option maxHeartbeats 4000000 in
theorem checkF_s (v : Value) (ts : List Ty) (cs : List Cl) (w : World) (h : SchV w v ts cs) :
    Calls Tryz.prog 49 #[v] w fun e w' => e = .returned (.int .i64 (chkS ts cs)) ∧ Below w.heap.size w w' := by
  obtain ⟨ao, n, cap, bo, m, dap, rfl, h1, h2, h3, h4⟩ := h
  have hb0 : Below w.heap.size w (w.alloc (.cells #[.slice ao n cap, .slice bo m dap] 25)) := (Below.refl _ _).alloc (Nat.le_refl _) _
  have HB0 := Lib.hid hb0
  have HC := Lib.hid (newTable_s ao bo n cap m dap ts cs w _ hb0 (h1.below hb0) h2 h3 h4)
  clear h1 h2 h3 h4 hb0
  go_enter Tryz.func49, Tryz.ntmps49
  go_wp2_with fail
  refine HC.out.mono ?_
  rintro e w1 ⟨m1, m2, rfl, _, _, _, _, hb⟩
  have HB1 := Lib.hid (HB0.out.trans (hb.mono (by simp)))
  have hs : w.heap.size ≤ w1.heap.size := HB1.out.size
  clear hb HC HB0
  go_wp2_with fail
  go_ret
  exact ⟨rfl, HB1.out.alloc hs _⟩
set_option maxHeartbeats 4000000 in
theorem typeF_s (v : Value) (ts : List Ty) (cs : List Cl) (n : ByteArray) (w : World) (h : SchV w v ts cs) (hn : n.size ≤ 1000000000) :
    Calls Tryz.prog 46 #[v, .string n] w fun e w' => e = .returned (.tuple #[tyV ((tyOf (soundT ts cs) n).getD zeroTy), .bool (tyOf (soundT ts cs) n).isSome]) ∧ Below w.heap.size w w' := by
  have h' := h
  obtain ⟨ao, k, cap, bo, m, dap, rfl, _⟩ := h'
  have hb0 : Below w.heap.size w ((w.alloc (.cells #[.slice ao k cap, .slice bo m dap] 25)).alloc (.cells #[.string ⟨#[]⟩, .int .i64 0, .bool false] 62)) := ((Below.refl _ _).alloc (Nat.le_refl _) _).alloc (by simp) _
  have HB0 := Lib.hid hb0
  have HC := Lib.hid (accepted_s _ ts cs _ (h.below hb0))
  clear h hb0
  obtain ⟨u, hu⟩ : ∃ u, (tyOf (soundT ts cs) n).getD zeroTy = u := ⟨_, rfl⟩
  obtain ⟨ok, hok⟩ : ∃ b, (tyOf (soundT ts cs) n).isSome = b := ⟨_, rfl⟩
  have HU := Lib.hid (And.intro hu hok)
  rw [hu, hok]
  unfold tyV
  clear hu hok
  go_enter Tryz.func46, Tryz.ntmps46
  go_wp2_with fail
  refine HC.out.mono ?_
  rintro e w1 ⟨tv, rfl, ⟨m1, m2, rfl, hT, _⟩, hb⟩
  have HB1 := Lib.hid (HB0.out.trans (hb.mono (by simp; omega)))
  have HC2 := typeOf_s m1 m2 (soundT ts cs) n w1 hT hn
  rw [HU.out.1, HU.out.2] at HC2
  unfold tyV at HC2
  have HC3 := Lib.hid HC2
  have r0 : w1.cell? ⟨w.heap.size + 1, 0, none⟩ = some (.string ⟨#[]⟩) := cell_later hb (by go_simp)
  have r1 : w1.cell? ⟨w.heap.size + 1, 1, none⟩ = some (.int .i64 0) := cell_later hb (by go_simp)
  have r2 : w1.cell? ⟨w.heap.size + 1, 2, none⟩ = some (.bool false) := cell_later hb (by go_simp)
  have f0 := frozen_later (i := 0) hb (b := w.heap.size + 1) (by simp) (by go_simp)
  have f1 := frozen_later (i := 1) hb (b := w.heap.size + 1) (by simp) (by go_simp)
  have f2 := frozen_later (i := 2) hb (b := w.heap.size + 1) (by simp) (by go_simp)
  have hs1 : w.heap.size + 1 < w1.heap.size := by have := hb.size; simp at this; omega
  have HR := Lib.hid (And.intro r0 (And.intro r1 (And.intro r2 (And.intro f0 (And.intro f1 f2)))))
  clear hb hT HC HB0 HC2 r0 r1 r2 f0 f1 f2
  go_wp2_with fail
  refine HC3.out.mono ?_
  rintro e w2 ⟨rfl, hb⟩
  have r0 := cell_later hb HR.out.1
  have r1 := cell_later hb HR.out.2.1
  have r2 := cell_later hb HR.out.2.2.1
  have f0 := frozen_later hb hs1 HR.out.2.2.2.1
  have f1 := frozen_later hb hs1 HR.out.2.2.2.2.1
  have f2 := frozen_later hb hs1 HR.out.2.2.2.2.2
  have HB2 := Lib.hid (HB1.out.trans (hb.mono HB1.out.size))
  have hs0 : w.heap.size ≤ w.heap.size + 1 := Nat.le_succ _
  clear hb HC3 HR
  go_wp2_with fail
  refine bodyPost_ret (v := .tuple #[.agg #[.string u.name, .int .i64 u.syn, .bool u.single], .bool ok]) (by simp only [results, Tryz.results46]; go_simp) rfl ?_
  exact ⟨rfl, below_set1 (below_set1 (below_set1 HB2.out (w.heap.size + 1) 0 hs0 _) (w.heap.size + 1) 1 hs0 _) (w.heap.size + 1) 2 hs0 _⟩
end Go.Proofs.YtmmdaegdkikkpaaGreatDoor
end

section
/-
  Contract of schema's Text. Condition: names of at most 1000000000 bytes; syntaxWords reads as its five words.
-/
set_option maxRecDepth 100000
namespace Go.Proofs.YtmmdaegdkikkpaaGreatDoor
open Go.RowKit Go.PlainAid
theorem nameB_64 {s : ByteArray} (h : nameB s = true) : s.size ≤ 64 := by
  unfold nameB at h
  simp only [Bool.and_eq_true, decide_eq_true_eq] at h
  exact h.1.1.2
/-- what an accepted schema is -/
structure Okay (ts : List Ty) (cs : List Cl) : Prop where
  tn : ts.length ≤ 64
  cn : cs.length ≤ 32
  ty : ∀ t ∈ ts, t.name.size ≤ 64 ∧ 1 ≤ t.syn ∧ t.syn ≤ 5
  cl : ∀ c ∈ cs, c.name.size ≤ 64 ∧ c.super.size ≤ 64 ∧ c.must.length ≤ 64 ∧ c.may.length ≤ 64 ∧ (∀ s ∈ c.must, s.size ≤ 64) ∧ ∀ s ∈ c.may, s.size ≤ 64
theorem chk_parts {ts : List Ty} {cs : List Cl} (h : chkS ts cs = 0) : ts.length ≤ 64 ∧ cs.length ≤ 32 ∧ (∀ j, j < ts.length → errT ts j = 0) ∧ ∀ j, j < cs.length → errC ts cs j = 0 := by
  unfold chkS at h
  split at h
  · cases h
  · split at h
    · exact absurd h ‹_›
    · rename_i h1 h2
      split at h
      · exact absurd h ‹_›
      · rename_i h3
        exact ⟨by omega, by omega, firstE_none (Classical.not_not.1 h2), firstE_none (Classical.not_not.1 h3)⟩
theorem okay_of {ts : List Ty} {cs : List Cl} (h : chkS ts cs = 0) : Okay ts cs := by
  obtain ⟨h1, h2, h3, h4⟩ := chk_parts h
  have hty : ∀ t ∈ ts, t.name.size ≤ 64 ∧ 1 ≤ t.syn ∧ t.syn ≤ 5 := fun t ht => by
    obtain ⟨j, hj, rfl⟩ := mem_ty ht
    have h5 := h3 j hj
    unfold errT at h5
    split at h5
    · cases h5
    · rename_i a1
      split at h5
      · cases h5
      · split at h5
        · cases h5
        · rename_i a3
          exact ⟨nameB_64 (by simpa using a1), by omega, by omega⟩
  have hnm : ∀ ns, typedB ts ns = true → ∀ s ∈ ns, s.size ≤ 64 := fun ns hn s hs => by
    have h6 := (List.all_eq_true.1 hn) s hs
    cases e : tyOf ts s with
    | none => rw [e] at h6; cases h6
    | some t =>
      have h7 := List.find?_some e
      have h8 : lowS t.name = lowS s := by simpa using h7
      have h9 := congrArg ByteArray.size h8
      rw [lowS_size, lowS_size] at h9
      rw [← h9]; exact (hty t (tyOf_mem e)).1
  have hS := soundC_of h4
  refine ⟨h1, h2, hty, fun c hc => ?_⟩
  obtain ⟨k, hk, rfl⟩ := mem_cl hc
  have h5 := h4 k hk
  obtain ⟨s1, s2, s3⟩ := hS k hk
  unfold errC at h5
  split at h5
  · cases h5
  · split at h5
    · cases h5
    · split at h5
      · cases h5
      · split at h5
        · cases h5
        · rename_i a4
          split at h5
          · cases h5
          · rename_i a5
            have b1 : typedB ts (clAt cs k).must = true := by cases e : typedB ts (clAt cs k).must; · exact absurd (.inl e) a5
                                                              · rfl
            have b2 : typedB ts (clAt cs k).may = true := by cases e : typedB ts (clAt cs k).may; · exact absurd (.inr e) a5
                                                             · rfl
            refine ⟨nameB_64 s1, ?_, by omega, by omega, hnm _ b1, hnm _ b2⟩
            by_cases h0 : (clAt cs k).super.size = 0
            · omega
            · cases e : clOf (cs.take k) (clAt cs k).super with
              | none => have := s3 h0; rw [e] at this; cases this
              | some d =>
                have h9 := congrArg ByteArray.size (clOf_name e)
                rw [lowS_size, lowS_size] at h9
                have hd := List.mem_of_mem_take (clOf_mem e)
                obtain ⟨q, hq, rfl⟩ := mem_cl hd
                rw [← h9]; exact nameB_64 (hS q hq).1
theorem joinB_le {sep : UInt8} {l : List ByteArray} {M : Nat} (hz : ∀ s ∈ l, s.size ≤ M) : (joinB sep l).size ≤ l.length * (M + 1) := by
  have := join_le sep M (l.map (·.data.toList)) (fun x hx => by
    obtain ⟨s, hs, rfl⟩ := List.mem_map.1 hx
    have := hz s hs
    rw [← Lib.size_eq]; exact this)
  rw [List.length_map] at this
  unfold joinB
  rw [Lib.size_mk]; exact this
theorem synW_size (x : Int) : (synW x).size ≤ 64 := by unfold synW; repeat (split <;> try decide)
theorem typeLn_size {t : Ty} (h : t.name.size ≤ 64) : (typeLn t).size ≤ 1000 := by
  unfold typeLn
  rw [ByteArray.size_append]
  have := joinB_le (sep := 32) (l := [typeN, t.name, synW t.syn] ++ if t.single then [singleN] else []) (M := 64) (fun s hs => by
    rcases List.mem_append.1 hs with k | k
    · simp only [List.mem_cons, List.not_mem_nil, or_false] at k
      rcases k with rfl | rfl | rfl
      · decide
      · exact h
      · exact synW_size _
    · split at k
      · rw [List.mem_singleton.1 k]; decide
      · cases k)
  have hl : ([typeN, t.name, synW t.syn] ++ if t.single then [singleN] else []).length ≤ 4 := by
    rw [List.length_append]; split <;> simp
  have h3 : ([typeN, t.name, synW t.syn] ++ if t.single then [singleN] else []).length * (64 + 1) ≤ 4 * 65 := Nat.mul_le_mul_right _ hl
  have h4 : (⟨#[10]⟩ : ByteArray).size = 1 := rfl
  omega
theorem listW_small {l : List ByteArray} (hl : l.length ≤ 64) (hz : ∀ s ∈ l, s.size ≤ 64) : (listW l).size ≤ 5000 := by
  unfold listW
  split
  · decide
  · have := joinB_le (sep := 44) hz
    have h3 : l.length * (64 + 1) ≤ 64 * 65 := Nat.mul_le_mul_right _ hl
    omega
theorem classLn_size {c : Cl} (h : c.name.size ≤ 64 ∧ c.super.size ≤ 64 ∧ c.must.length ≤ 64 ∧ c.may.length ≤ 64 ∧ (∀ s ∈ c.must, s.size ≤ 64) ∧ ∀ s ∈ c.may, s.size ≤ 64) : (classLn c).size ≤ 30000 := by
  unfold classLn
  rw [ByteArray.size_append]
  have := joinB_le (sep := 32) (l := [classN, c.name, superW c.super, listW c.must, listW c.may]) (M := 5000) (fun s hs => by
    simp only [List.mem_cons, List.not_mem_nil, or_false] at hs
    rcases hs with rfl | rfl | rfl | rfl | rfl
    · decide
    · exact Nat.le_trans h.1 (by decide)
    · unfold superW; split
      · decide
      · exact Nat.le_trans h.2.1 (by decide)
    · exact listW_small h.2.2.1 h.2.2.2.2.1
    · exact listW_small h.2.2.2.1 h.2.2.2.2.2)
  have h4 : (⟨#[10]⟩ : ByteArray).size = 1 := rfl
  simp only [List.length_cons, List.length_nil] at this
  omega
/-- the lines of a schema -/
def tyL (l : List Ty) : List UInt8 := l.flatMap fun t => (typeLn t).data.toList
def clL (l : List Cl) : List UInt8 := l.flatMap fun c => (classLn c).data.toList
def textL (ts : List Ty) (cs : List Cl) : List UInt8 := tyL ts ++ clL cs
def txtE (ts : List Ty) (cs : List Cl) : Int := if chkS ts cs ≠ 0 then chkS ts cs else if 4096 < (textL ts cs).length then 3 else 0
def txtV (ts : List Ty) (cs : List Cl) : ByteArray := if chkS ts cs ≠ 0 then ⟨#[]⟩ else if 4096 < (textL ts cs).length then ⟨#[]⟩ else ⟨(textL ts cs).toArray⟩
theorem tyL_len : ∀ {l : List Ty}, (∀ t ∈ l, t.name.size ≤ 64) → (tyL l).length ≤ l.length * 1000
  | [], _ => Nat.zero_le _
  | t :: l, h => by
    have h1 := typeLn_size (h t (List.mem_cons_self ..))
    have h2 := tyL_len (l := l) (fun d hd => h d (List.mem_cons_of_mem _ hd))
    have e : tyL (t :: l) = (typeLn t).data.toList ++ tyL l := rfl
    rw [Lib.size_eq] at h1
    rw [e, List.length_append, List.length_cons]; omega
theorem clL_len : ∀ {l : List Cl}, (∀ c ∈ l, c.name.size ≤ 64 ∧ c.super.size ≤ 64 ∧ c.must.length ≤ 64 ∧ c.may.length ≤ 64 ∧ (∀ s ∈ c.must, s.size ≤ 64) ∧ ∀ s ∈ c.may, s.size ≤ 64) → (clL l).length ≤ l.length * 30000
  | [], _ => Nat.zero_le _
  | t :: l, h => by
    have h1 := classLn_size (h t (List.mem_cons_self ..))
    have h2 := clL_len (l := l) (fun d hd => h d (List.mem_cons_of_mem _ hd))
    have e : clL (t :: l) = (classLn t).data.toList ++ clL l := rfl
    rw [Lib.size_eq] at h1
    rw [e, List.length_append, List.length_cons]; omega
end Go.Proofs.YtmmdaegdkikkpaaGreatDoor
end

section
/-
  Contract of schema's Text. Condition: names of at most 1000000000 bytes; syntaxWords reads as its five words.
-/
set_option maxRecDepth 100000
namespace Go.Proofs.YtmmdaegdkikkpaaGreatDoor
open Go.RowKit Go.PlainAid
theorem tyL_take (l : List Ty) (k : Nat) (h : k < l.length) : tyL (l.take (k + 1)) = tyL (l.take k) ++ (typeLn (tyAt l k)).data.toList := by
  rw [ty_take l k h]; simp [tyL]
theorem clL_take (l : List Cl) (k : Nat) (h : k < l.length) : clL (l.take (k + 1)) = clL (l.take k) ++ (classLn (clAt l k)).data.toList := by
  rw [cl_take l k h]; simp [clL]
set_option maxHeartbeats 16000000 in
theorem textF_s (v : Value) (ts : List Ty) (cs : List Cl) (w : World) (h : SchV w v ts cs) (ho : SynOk w) :
    Calls Tryz.prog 15 #[v] w fun e w' => e = .returned (.tuple #[.string (txtV ts cs), .int .i64 (txtE ts cs)]) ∧ Below w.heap.size w w' := by
  have h' := h
  obtain ⟨ao, n, cap, bo, m, dap, rfl, hTy, hCl, _, _⟩ := h'
  have hb0 : Below w.heap.size w (w.alloc (.cells #[.slice ao n cap, .slice bo m dap] 25)) := (Below.refl _ _).alloc (Nat.le_refl _) _
  have HB0 := Lib.hid hb0
  have HC := Lib.hid (checkF_s _ ts cs _ (h.below hb0))
  have HO := Lib.hid ho
  have HTy := Lib.hid hTy
  have HCl := Lib.hid hCl
  obtain ⟨ce, hce⟩ : ∃ c, chkS ts cs = c := ⟨_, rfl⟩
  have HE := Lib.hid (show txtE ts cs = (if ce ≠ 0 then ce else if 4096 < (textL ts cs).length then 3 else 0) ∧ txtV ts cs = if ce ≠ 0 then ⟨#[]⟩ else if 4096 < (textL ts cs).length then ⟨#[]⟩ else ⟨(textL ts cs).toArray⟩ by rw [← hce]; exact ⟨rfl, rfl⟩)
  have HOk := Lib.hid (show ce = 0 → Okay ts cs from fun e => okay_of (hce.trans e))
  have htl := hTy.1
  have hcl := hCl.1
  have htm := hTy.2.1
  have htx := hTy.2.2.1
  have hcm := hCl.2.1
  have hcx := hCl.2.2.1
  unfold maxLen at htx hcx
  rw [hce] at HC
  clear h hb0 hTy hCl hce ho
  go_enter Tryz.func15, Tryz.ntmps15
  go_wp2_with fail
  refine HC.out.mono ?_
  rintro e w1 ⟨rfl, hb⟩
  have q0 : w1.cell? ⟨w.heap.size, 0, none⟩ = some (.slice ao n cap) := cell_later hb (by go_simp)
  have q1 : w1.cell? ⟨w.heap.size, 1, none⟩ = some (.slice bo m dap) := cell_later hb (by go_simp)
  have hsz1 : w.heap.size < w1.heap.size := by have := hb.size; simp at this; omega
  have HB1 := Lib.hid (HB0.out.trans (hb.mono (by simp)))
  clear hb HC HB0
  by_cases hc : ce = 0
  · have hok := HOk.out hc
    subst hc
    have HK := Lib.hid hok
    have hN1 := hok.tn
    have hN2 := hok.cn
    have HE1 := Lib.hid (show txtE ts cs = (if 4096 < (textL ts cs).length then 3 else 0) ∧ txtV ts cs = (if 4096 < (textL ts cs).length then ⟨#[]⟩ else ⟨(textL ts cs).toArray⟩) from ⟨HE.out.1.trans (if_neg (by simp)), HE.out.2.trans (if_neg (by simp))⟩)
    have hN3 := tyL_len (fun t ht => (hok.ty t ht).1)
    have hN4 := clL_len hok.cl
    have hal := (Below.refl w1.heap.size w1).alloc (Nat.le_refl _) (.cells #[.pointer none, .slice none 0 0] 79)
    have HBd := Lib.hid (bld_new w1)
    have HAL := Lib.hid (show Below w1.heap.size w1 (w1.alloc (.cells #[.pointer none, .slice none 0 0] 79)) ∧ w1.heap.size < (w1.alloc (.cells #[.pointer none, .slice none 0 0] 79)).heap.size from ⟨hal, by simp⟩)
    have HQ := Lib.hid (And.intro q0 q1)
    clear hok hal
    go_wp2_with fail
    go_loopw [7, 18] (fun s7 i wr => ∃ (k : Nat), k ≤ n ∧ i = .int .i64 k ∧ Hid (Bld w1.heap.size w1.heap.size (tyL (ts.take k)) wr) ∧ Hid (Below w1.heap.size w1 wr ∧ w1.heap.size < wr.heap.size)) (fun _ i _ => n - (intOf i).toNat)
    case atStart => exact ⟨0, Nat.zero_le _, rfl, HBd, HAL⟩
    case round =>
      clear HBd HAL q0 q1
      obtain ⟨k, hk, rfl, HBk, HB⟩ := hrel
      have q0 := cell_later HB.out.1 HQ.out.1
      have q1 := cell_later HB.out.1 HQ.out.2
      have hsz2 := HB.out.2
      by_cases hlt : k < n
      · obtain ⟨b, off, e, hbl, hat⟩ := HTy.out.2.2.2 (by omega)
        subst e
        obtain ⟨x0, x1, x2⟩ := hat k hlt
        clear hat
        have hin := HK.out.ty _ (ty_mem ts k (by omega))
        have HT := Lib.hid (tyL_take ts k (by omega))
        have hln : (tyL (ts.take k)).length ≤ 64000 := by
          have := tyL_len (l := ts.take k) (fun t ht => (HK.out.ty t (List.mem_of_mem_take ht)).1)
          rw [List.length_take] at this
          omega
        obtain ⟨t, ht⟩ : ∃ t, tyAt ts k = t := ⟨_, rfl⟩
        rw [ht] at x0 x1 x2 hin HT
        clear ht
        have hBw := HB1.out.trans (HB.out.1.mono HB1.out.size)
        have x0 := cell_later hBw x0
        have x1 := cell_later hBw x1
        have x2 := cell_later hBw x2
        have hal := (Below.refl wr.heap.size wr).alloc (Nat.le_refl _) (.cells #[.string t.name, .int .i64 t.syn, .bool t.single] 62)
        have HCt := Lib.hid (typeLine_s t _ (Nat.le_trans hin.1 (by decide)) hin.2.1 hin.2.2 (HO.out.below (hBw.trans (hal.mono hBw.size))))
        have hts := typeLn_size hin.1
        have HL := Lib.hid (HBk.out.below hal)
        have HAl := Lib.hid (HB.out.1.trans (hal.mono HB.out.1.size))
        obtain ⟨ln, hln2⟩ : ∃ s, typeLn t = s := ⟨_, rfl⟩
        rw [hln2] at HCt hts HT
        have d1 : (k : Int) < (n : Int) := by omega
        clear hln2 hal hBw
        go_wp2_with fail
        refine HCt.out.mono ?_
        rintro e w4 ⟨rfl, hb⟩
        have HL4 := Lib.hid (HL.out.below hb)
        have HB4 := Lib.hid (show Below w1.heap.size w1 w4 ∧ w1.heap.size < w4.heap.size from ⟨HAl.out.trans (hb.mono HAl.out.size), by have := hb.size; simp at this; omega⟩)
        clear hb HCt
        go_wp2_with fail
        refine (writeString_s _ _ _ ln w4 HL4.out (by omega) (Nat.le_of_lt HB4.out.2)).mono ?_
        rintro e w5 ⟨rfl, hbl5, hb⟩
        have HL5 := Lib.hid hbl5
        have HB5 := Lib.hid (show Below w1.heap.size w1 w5 ∧ w1.heap.size < w5.heap.size from ⟨HB4.out.1.trans hb, Nat.lt_of_lt_of_le HB4.out.2 hb.size⟩)
        clear hb hbl5
        go_wp2_with fail
        go_roundw
        case rel => exact ⟨k + 1, by omega, by go_num, by rw [HT.out]; exact HL5, HB5⟩
        case measure => simp [intOf]; omega
      · obtain rfl : k = n := by omega
        have d1 : ¬ (k : Int) < (k : Int) := by omega
        rw [List.take_of_length_le (by omega)] at HBk
        go_wp2_with fail
        clear d1
        go_loopw [9, 29] (fun s9 i wr => ∃ (j : Nat), j ≤ m ∧ i = .int .i64 j ∧ Hid (Bld w1.heap.size w1.heap.size (tyL ts ++ clL (cs.take j)) wr) ∧ Hid (Below w1.heap.size w1 wr ∧ w1.heap.size < wr.heap.size)) (fun _ i _ => m - (intOf i).toNat)
        case atStart => exact ⟨0, Nat.zero_le _, rfl, Lib.hid (by rw [List.take_zero]; show Bld _ _ (tyL ts ++ []) _; rw [List.append_nil]; exact HBk.out), HB⟩
        case round =>
          clear HBk HB q0 q1 hsz2
          obtain ⟨j, hj, rfl, HBk, HB⟩ := hrel
          have hsz2 := HB.out.2
          by_cases hlt2 : j < m
          · obtain ⟨b, off, e, hbl, hat⟩ := HCl.out.2.2.2 (by omega)
            subst e
            obtain ⟨x0, x1, ⟨a1, p1, q1, x2, s1⟩, a2, p2, q2, x3, s2⟩ := hat j hlt2
            clear hat
            have hin := HK.out.cl _ (cl_mem cs j (by omega))
            have HT := Lib.hid (clL_take cs j (by omega))
            have hln : (clL (cs.take j)).length ≤ 960000 := by
              have := clL_len (l := cs.take j) (fun c hc => HK.out.cl c (List.mem_of_mem_take hc))
              rw [List.length_take] at this
              omega
            obtain ⟨c, hc⟩ : ∃ c, clAt cs j = c := ⟨_, rfl⟩
            rw [hc] at x0 x1 s1 s2 hin HT
            clear hc
            have hBw := HB1.out.trans (HB.out.1.mono HB1.out.size)
            have x0 := cell_later hBw x0
            have x1 := cell_later hBw x1
            have x2 := cell_later hBw x2
            have x3 := cell_later hBw x3
            have hal := (Below.refl wr.heap.size wr).alloc (Nat.le_refl _) (.cells #[.string c.name, .string c.super, .slice a1 p1 q1, .slice a2 p2 q2] 64)
            have hBa := hBw.trans (hal.mono hBw.size)
            have hp1 := s1.1
            have hp2 := s2.1
            have HCt := Lib.hid (classLine_s c a1 a2 p1 q1 p2 q2 _ (s1.below hBa) (s2.below hBa) (Nat.le_trans hin.1 (by decide)) (Nat.le_trans hin.2.1 (by decide)) (fun s hs => Nat.le_trans (hin.2.2.2.2.1 s hs) (by decide)) (fun s hs => Nat.le_trans (hin.2.2.2.2.2 s hs) (by decide)) (by have := hin.2.2.1; omega) (by have := hin.2.2.2.1; omega))
            have hts := classLn_size hin
            have HL := Lib.hid (HBk.out.below hal)
            have HAl := Lib.hid (HB.out.1.trans (hal.mono HB.out.1.size))
            obtain ⟨ln, hln2⟩ : ∃ s, classLn c = s := ⟨_, rfl⟩
            rw [hln2] at HCt hts HT
            have d1 : (j : Int) < (m : Int) := by omega
            have hlen : (tyL ts ++ clL (cs.take j)).length ≤ 2000000 := by rw [List.length_append]; omega
            clear hln2 hal hBw hBa s1 s2
            go_wp2_with fail
            refine HCt.out.mono ?_
            rintro e w4 ⟨rfl, hb⟩
            have HL4 := Lib.hid (HL.out.below hb)
            have HB4 := Lib.hid (show Below w1.heap.size w1 w4 ∧ w1.heap.size < w4.heap.size from ⟨HAl.out.trans (hb.mono HAl.out.size), by have := hb.size; simp at this; omega⟩)
            clear hb HCt
            go_wp2_with fail
            refine (writeString_s _ _ _ ln w4 HL4.out (by omega) (Nat.le_of_lt HB4.out.2)).mono ?_
            rintro e w5 ⟨rfl, hbl5, hb⟩
            have HL5 := Lib.hid hbl5
            have HB5 := Lib.hid (show Below w1.heap.size w1 w5 ∧ w1.heap.size < w5.heap.size from ⟨HB4.out.1.trans hb, Nat.lt_of_lt_of_le HB4.out.2 hb.size⟩)
            clear hb hbl5
            go_wp2_with fail
            go_roundw
            case rel => exact ⟨j + 1, by omega, by go_num, by rw [HT.out, ← List.append_assoc]; exact HL5, HB5⟩
            case measure => simp [intOf]; omega
          · obtain rfl : j = m := by omega
            have d1 : ¬ (j : Int) < (j : Int) := by omega
            rw [List.take_of_length_le (by omega)] at HBk
            have HBL : Hid (Bld w1.heap.size w1.heap.size (textL ts cs) wr) := HBk
            have hlen : (bcells (textL ts cs)).length = (textL ts cs).length := bcells_length _
            have HLn := Lib.hid (Tryz.Builder_Len w1.heap.size w1.heap.size (bcells (textL ts cs)) wr HBL.out)
            rw [hlen] at HLn
            have HSt := Lib.hid (string_s w1.heap.size w1.heap.size (textL ts cs) wr HBL.out (Nat.le_of_lt HB.out.2))
            obtain ⟨tx, htx2⟩ : ∃ t, textL ts cs = t := ⟨_, rfl⟩
            rw [htx2] at HLn HSt HE1
            clear htx2 HBk HBL hlen
            go_wp2_with fail
            refine HLn.out.mono ?_
            rintro e w6 ⟨rfl, rfl⟩
            by_cases h4 : 4096 < tx.length
            · have d2 : (4096 : Int) < (tx.length : Int) := by omega
              have HE2 := Lib.hid (show txtE ts cs = 3 ∧ txtV ts cs = ⟨#[]⟩ from ⟨HE1.out.1.trans (if_pos h4), HE1.out.2.trans (if_pos h4)⟩)
              go_wp2_with fail
              go_ret2
              exact ⟨by rw [HE2.out.1, HE2.out.2]; rfl, HB1.out.trans (HB.out.1.mono HB1.out.size)⟩
            · have d2 : ¬ (4096 : Int) < (tx.length : Int) := by omega
              have HE2 := Lib.hid (show txtE ts cs = 0 ∧ txtV ts cs = ⟨tx.toArray⟩ from ⟨HE1.out.1.trans (if_neg h4), HE1.out.2.trans (if_neg h4)⟩)
              go_wp2_with fail
              refine HSt.out.mono ?_
              rintro e w7 ⟨rfl, hb⟩
              have HB7 := Lib.hid (HB1.out.trans ((HB.out.1.trans hb).mono HB1.out.size))
              clear hb
              go_wp2_with fail
              go_ret2
              exact ⟨by rw [HE2.out.1, HE2.out.2]; rfl, HB7.out⟩
  · have HE1 := Lib.hid (show txtE ts cs = ce ∧ txtV ts cs = ⟨#[]⟩ from ⟨HE.out.1.trans (if_pos hc), HE.out.2.trans (if_pos hc)⟩)
    go_wp2_with fail
    go_ret2
    exact ⟨by rw [HE1.out.1, HE1.out.2]; rfl, HB1.out⟩
end Go.Proofs.YtmmdaegdkikkpaaGreatDoor
end

section
/-
  Contracts of schema's readSuper, readSyntax and readList. Condition: words of at most 1000000 bytes; syntaxWords reads as its five words.
-/
set_option maxRecDepth 100000
namespace Go.Proofs.YtmmdaegdkikkpaaGreatDoor
open Go.RowKit Go.PlainAid
theorem dash_eq (s : ByteArray) : (s.toList == ([45] : List UInt8)) = decide (s = dashN) := by
  have h := str_eq s dashN
  rwa [show dashN.toList = ([45] : List UInt8) by rw [Lib.toList_data]; rfl] at h
theorem readSuper_s (s : ByteArray) (w : World) (hs : s.size ≤ 1000000) :
    Calls Tryz.prog 189 #[.string s] w fun e w' => e = .returned (.tuple #[.string (if s = dashN then ⟨#[]⟩ else s), .bool (decide (s = dashN) || nameB s)]) ∧ w = w' := by
  have hd := dash_eq s
  by_cases h : s = dashN
  · rw [decide_eq_true h] at hd
    have HE := Lib.hid (show (if s = dashN then (⟨#[]⟩ : ByteArray) else s) = ⟨#[]⟩ ∧ (decide (s = dashN) || nameB s) = true from ⟨if_pos h, by rw [decide_eq_true h]; rfl⟩)
    rw [HE.out.1, HE.out.2]
    clear h
    go_enter Tryz.func189, Tryz.ntmps189
    go_wp2_with fail
    go_ret2
    exact ⟨rfl, rfl⟩
  · rw [decide_eq_false h] at hd
    have HE := Lib.hid (show (if s = dashN then (⟨#[]⟩ : ByteArray) else s) = s ∧ (decide (s = dashN) || nameB s) = nameB s from ⟨if_neg h, by rw [decide_eq_false h]; rfl⟩)
    rw [HE.out.1, HE.out.2]
    clear h
    go_enter Tryz.func189, Tryz.ntmps189
    go_wp2_with fail
    refine (name_s s _ (by omega)).mono ?_
    rintro e w1 ⟨rfl, rfl⟩
    go_wp2_with fail
    go_ret2
    exact ⟨rfl, rfl⟩
/-- the syntax of a word, 0 if there is none -/
def rdSyn (s : ByteArray) : Int := if s = synW 1 then 1 else if s = synW 2 then 2 else if s = synW 3 then 3 else if s = synW 4 then 4 else if s = synW 5 then 5 else 0
def rdOk (s : ByteArray) : Bool := decide (rdSyn s ≠ 0)
set_option maxHeartbeats 4000000 in
theorem readSyntax_s (s : ByteArray) (w : World) (ho : SynOk w) :
    Calls Tryz.prog 188 #[.string s] w fun e w' => e = .returned (.tuple #[.int .i64 (rdSyn s), .bool (rdOk s)]) ∧ Below w.heap.size w w' := by
  have c0 : w.cell? ⟨0, 0, none⟩ = some (.string ⟨#[116, 101, 120, 116]⟩) := ho 0 (by decide)
  have c1 : w.cell? ⟨0, 1, none⟩ = some (.string ⟨#[101, 120, 97, 99, 116]⟩) := ho 1 (by decide)
  have c2 : w.cell? ⟨0, 2, none⟩ = some (.string ⟨#[105, 110, 116]⟩) := ho 2 (by decide)
  have c3 : w.cell? ⟨0, 3, none⟩ = some (.string ⟨#[110, 97, 109, 101]⟩) := ho 3 (by decide)
  have c4 : w.cell? ⟨0, 4, none⟩ = some (.string ⟨#[98, 111, 111, 108]⟩) := ho 4 (by decide)
  have i0 : ∀ w, (Instr.index 139 (.agg #[.string ⟨#[116, 101, 120, 116]⟩, .string ⟨#[101, 120, 97, 99, 116]⟩, .string ⟨#[105, 110, 116]⟩, .string ⟨#[110, 97, 109, 101]⟩, .string ⟨#[98, 111, 111, 108]⟩]) (.int .i64 0)).run Tryz.prog w = .ok (.string ⟨#[116, 101, 120, 116]⟩) w := fun _ => by kernel_rfl
  have i1 : ∀ w, (Instr.index 139 (.agg #[.string ⟨#[116, 101, 120, 116]⟩, .string ⟨#[101, 120, 97, 99, 116]⟩, .string ⟨#[105, 110, 116]⟩, .string ⟨#[110, 97, 109, 101]⟩, .string ⟨#[98, 111, 111, 108]⟩]) (.int .i64 1)).run Tryz.prog w = .ok (.string ⟨#[101, 120, 97, 99, 116]⟩) w := fun _ => by kernel_rfl
  have i2 : ∀ w, (Instr.index 139 (.agg #[.string ⟨#[116, 101, 120, 116]⟩, .string ⟨#[101, 120, 97, 99, 116]⟩, .string ⟨#[105, 110, 116]⟩, .string ⟨#[110, 97, 109, 101]⟩, .string ⟨#[98, 111, 111, 108]⟩]) (.int .i64 2)).run Tryz.prog w = .ok (.string ⟨#[105, 110, 116]⟩) w := fun _ => by kernel_rfl
  have i3 : ∀ w, (Instr.index 139 (.agg #[.string ⟨#[116, 101, 120, 116]⟩, .string ⟨#[101, 120, 97, 99, 116]⟩, .string ⟨#[105, 110, 116]⟩, .string ⟨#[110, 97, 109, 101]⟩, .string ⟨#[98, 111, 111, 108]⟩]) (.int .i64 3)).run Tryz.prog w = .ok (.string ⟨#[110, 97, 109, 101]⟩) w := fun _ => by kernel_rfl
  have i4 : ∀ w, (Instr.index 139 (.agg #[.string ⟨#[116, 101, 120, 116]⟩, .string ⟨#[101, 120, 97, 99, 116]⟩, .string ⟨#[105, 110, 116]⟩, .string ⟨#[110, 97, 109, 101]⟩, .string ⟨#[98, 111, 111, 108]⟩]) (.int .i64 4)).run Tryz.prog w = .ok (.string ⟨#[98, 111, 111, 108]⟩) w := fun _ => by kernel_rfl
  obtain ⟨b0, hb0⟩ : ∃ b, decide (s = synW 1) = b := ⟨_, rfl⟩
  have t0 : (([116, 101, 120, 116] : List UInt8) == s.toList) = b0 := by
    rw [← hb0, ← str_eq, show (synW 1).toList = ([116, 101, 120, 116] : List UInt8) by rw [Lib.toList_data]; rfl]
    exact Bool.eq_iff_iff.2 ⟨fun h => by rw [eq_of_beq h]; exact beq_self_eq_true _, fun h => by rw [eq_of_beq h]; exact beq_self_eq_true _⟩
  obtain ⟨b1, hb1⟩ : ∃ b, decide (s = synW 2) = b := ⟨_, rfl⟩
  have t1 : (([101, 120, 97, 99, 116] : List UInt8) == s.toList) = b1 := by
    rw [← hb1, ← str_eq, show (synW 2).toList = ([101, 120, 97, 99, 116] : List UInt8) by rw [Lib.toList_data]; rfl]
    exact Bool.eq_iff_iff.2 ⟨fun h => by rw [eq_of_beq h]; exact beq_self_eq_true _, fun h => by rw [eq_of_beq h]; exact beq_self_eq_true _⟩
  obtain ⟨b2, hb2⟩ : ∃ b, decide (s = synW 3) = b := ⟨_, rfl⟩
  have t2 : (([105, 110, 116] : List UInt8) == s.toList) = b2 := by
    rw [← hb2, ← str_eq, show (synW 3).toList = ([105, 110, 116] : List UInt8) by rw [Lib.toList_data]; rfl]
    exact Bool.eq_iff_iff.2 ⟨fun h => by rw [eq_of_beq h]; exact beq_self_eq_true _, fun h => by rw [eq_of_beq h]; exact beq_self_eq_true _⟩
  obtain ⟨b3, hb3⟩ : ∃ b, decide (s = synW 4) = b := ⟨_, rfl⟩
  have t3 : (([110, 97, 109, 101] : List UInt8) == s.toList) = b3 := by
    rw [← hb3, ← str_eq, show (synW 4).toList = ([110, 97, 109, 101] : List UInt8) by rw [Lib.toList_data]; rfl]
    exact Bool.eq_iff_iff.2 ⟨fun h => by rw [eq_of_beq h]; exact beq_self_eq_true _, fun h => by rw [eq_of_beq h]; exact beq_self_eq_true _⟩
  obtain ⟨b4, hb4⟩ : ∃ b, decide (s = synW 5) = b := ⟨_, rfl⟩
  have t4 : (([98, 111, 111, 108] : List UInt8) == s.toList) = b4 := by
    rw [← hb4, ← str_eq, show (synW 5).toList = ([98, 111, 111, 108] : List UInt8) by rw [Lib.toList_data]; rfl]
    exact Bool.eq_iff_iff.2 ⟨fun h => by rw [eq_of_beq h]; exact beq_self_eq_true _, fun h => by rw [eq_of_beq h]; exact beq_self_eq_true _⟩
  have HR := Lib.hid (show rdSyn s = if b0 = true then 1 else if b1 = true then 2 else if b2 = true then 3 else if b3 = true then 4 else if b4 = true then 5 else 0 by
    rw [← hb0, ← hb1, ← hb2, ← hb3, ← hb4]; unfold rdSyn; simp only [decide_eq_true_eq])
  clear ho hb0 hb1 hb2 hb3 hb4
  cases b0
  · cases b1
    · cases b2
      · cases b3
        · cases b4
          · have HE := Lib.hid (show rdSyn s = 0 ∧ rdOk s = false from ⟨HR.out.trans (by simp), by unfold rdOk; rw [HR.out]; simp⟩)
            rw [HE.out.1, HE.out.2]
            go_enter Tryz.func188, Tryz.ntmps188
            go_wp2_with fail
            refine wp_loop_rounds 6 ?_
            rw [rounds_succ]
            go_wp2_with fail
            rw [rounds_succ]
            go_wp2_with fail
            rw [rounds_succ]
            go_wp2_with fail
            rw [rounds_succ]
            go_wp2_with fail
            rw [rounds_succ]
            go_wp2_with fail
            rw [rounds_succ]
            go_wp2_with fail
            go_ret2
            exact ⟨rfl, Below.refl _ _⟩
          · have HE := Lib.hid (show rdSyn s = 5 ∧ rdOk s = true from ⟨HR.out.trans (by simp), by unfold rdOk; rw [HR.out]; simp⟩)
            rw [HE.out.1, HE.out.2]
            go_enter Tryz.func188, Tryz.ntmps188
            go_wp2_with fail
            refine wp_loop_rounds 6 ?_
            rw [rounds_succ]
            go_wp2_with fail
            rw [rounds_succ]
            go_wp2_with fail
            rw [rounds_succ]
            go_wp2_with fail
            rw [rounds_succ]
            go_wp2_with fail
            rw [rounds_succ]
            go_wp2_with fail
            go_ret2
            exact ⟨rfl, Below.refl _ _⟩
        · have HE := Lib.hid (show rdSyn s = 4 ∧ rdOk s = true from ⟨HR.out.trans (by simp), by unfold rdOk; rw [HR.out]; simp⟩)
          rw [HE.out.1, HE.out.2]
          go_enter Tryz.func188, Tryz.ntmps188
          go_wp2_with fail
          refine wp_loop_rounds 6 ?_
          rw [rounds_succ]
          go_wp2_with fail
          rw [rounds_succ]
          go_wp2_with fail
          rw [rounds_succ]
          go_wp2_with fail
          rw [rounds_succ]
          go_wp2_with fail
          go_ret2
          exact ⟨rfl, Below.refl _ _⟩
      · have HE := Lib.hid (show rdSyn s = 3 ∧ rdOk s = true from ⟨HR.out.trans (by simp), by unfold rdOk; rw [HR.out]; simp⟩)
        rw [HE.out.1, HE.out.2]
        go_enter Tryz.func188, Tryz.ntmps188
        go_wp2_with fail
        refine wp_loop_rounds 6 ?_
        rw [rounds_succ]
        go_wp2_with fail
        rw [rounds_succ]
        go_wp2_with fail
        rw [rounds_succ]
        go_wp2_with fail
        go_ret2
        exact ⟨rfl, Below.refl _ _⟩
    · have HE := Lib.hid (show rdSyn s = 2 ∧ rdOk s = true from ⟨HR.out.trans (by simp), by unfold rdOk; rw [HR.out]; simp⟩)
      rw [HE.out.1, HE.out.2]
      go_enter Tryz.func188, Tryz.ntmps188
      go_wp2_with fail
      refine wp_loop_rounds 6 ?_
      rw [rounds_succ]
      go_wp2_with fail
      rw [rounds_succ]
      go_wp2_with fail
      go_ret2
      exact ⟨rfl, Below.refl _ _⟩
  · have HE := Lib.hid (show rdSyn s = 1 ∧ rdOk s = true from ⟨HR.out.trans (by simp), by unfold rdOk; rw [HR.out]; simp⟩)
    rw [HE.out.1, HE.out.2]
    go_enter Tryz.func188, Tryz.ntmps188
    go_wp2_with fail
    refine wp_loop_rounds 6 ?_
    rw [rounds_succ]
    go_wp2_with fail
    go_ret2
    exact ⟨rfl, Below.refl _ _⟩
end Go.Proofs.YtmmdaegdkikkpaaGreatDoor
end

section
/-
  Contract of the table's may. Condition: names of at most 1000000000 bytes, lists of at most 64 names.
-/
set_option maxRecDepth 100000
namespace Go.Proofs.YtmmdaegdkikkpaaGreatDoor
open Go.RowKit Go.PlainAid
theorem mustL_few {cs : List Cl} (hF : FewC cs) {l : List Cl} (hl : ∀ c ∈ l, c ∈ cs) (hn : l.length ≤ 1000) : (mustL l).length ≤ 64000 := by
  have := flat_few (f := fun c => c.must) (l := l) (fun c hc => (hF c (hl c hc)).1)
  show (l.flatMap fun c => c.must).length ≤ 64000
  omega
theorem mayL_few {cs : List Cl} (hF : FewC cs) {l : List Cl} (hl : ∀ c ∈ l, c ∈ cs) (hn : l.length ≤ 1000) : (mayL l).length ≤ 64000 := by
  have := flat_few (f := fun c => c.may) (l := l) (fun c hc => (hF c (hl c hc)).2)
  show (l.flatMap fun c => c.may).length ≤ 64000
  omega
theorem mustS_few {cs : List Cl} (hS : SoundC cs) (hL : cs.length ≤ 1000) (hF : FewC cs) (n : ByteArray) : (mustS cs n).length ≤ 64000 := by
  rw [mustS_eq]
  refine Nat.le_trans (sortU_len _) ?_
  rw [List.length_map]
  exact mustL_few hF (fun c hc => lineS_mem hc) (Nat.le_trans (lineS_small hS n) hL)
theorem mustS_small {cs : List Cl} (hZ : SmC cs) {n s : ByteArray} (h : s ∈ mustS cs n) : s.size ≤ 1000000000 := by
  rw [mustS_eq, sortU_mem] at h
  obtain ⟨t, ht, rfl⟩ := List.mem_map.1 h
  obtain ⟨c, hc, hs⟩ := List.mem_flatMap.1 ht
  rw [lowS_size]
  exact (hZ c (lineS_mem hc)).2.2.1 t hs
set_option maxHeartbeats 8000000 in
theorem may_s (mt mc : Option Nat) (w0 : World) (cs : List Cl) (n : ByteArray) (w : World) (h0 : Below w0.heap.size w0 w) (h : CMap w0 w mc cs) (hS : SoundC cs) (hL : cs.length ≤ 1000) (hZ : SmC cs) (hF : FewC cs) (hn : n.size ≤ 1000000000) :
    Calls Tryz.prog 114 #[.agg #[.map mt, .map mc], .string n] w fun e w' => ∃ u : Value, e = .returned u ∧ w'.ownsRow (w.heap.size + 1) 9 1 u (mayS cs n).length (scells (mayS cs n)) ∧ Below w.heap.size w w' := by
  have HZ := Lib.hid hZ; have HF := Lib.hid hF; have H0 := Lib.hid h0
  have hB0 : Below w.heap.size w (w.alloc (.cells #[.map mt, .map mc] 130)) := (Below.refl _ _).alloc (Nat.le_refl _) _
  have HB0 := Lib.hid hB0
  have HC0 := Lib.hid (must_s mt mc w0 cs n _ (h0.trans (hB0.mono h0.size)) (h.below hB0) hS hL hZ hF hn)
  have HC := Lib.hid (fun (W : World) (hW : Below w.heap.size w W) => lineage_s mt mc w0 cs n W (h.below hW) hS hL hZ hn)
  have hlen := lineS_small hS n
  have hms := mustS_few hS hL hF n
  have HS := Lib.hid (fun s (hs : s ∈ mustS cs n) => mustS_small hZ hs)
  clear h hS hZ hF h0 hB0
  go_enter Tryz.func114, Tryz.ntmps114
  go_wp2_with fail
  refine HC0.out.mono ?_
  rintro e w1 ⟨u0, rfl, hown0, hb⟩
  have m0 : w1.cell? ⟨w.heap.size, 0, none⟩ = some (.map mt) := cell_later hb (by go_simp)
  have m1 : w1.cell? ⟨w.heap.size, 1, none⟩ = some (.map mc) := cell_later hb (by go_simp)
  have HB1 := Lib.hid (show Below w.heap.size w w1 ∧ w.heap.size + 1 ≤ w1.heap.size from ⟨HB0.out.trans (hb.mono (by simp)), by have := hb.size; simpa using this⟩)
  have HO0 := Lib.hid (hown0.mono (base' := w.heap.size + 1) (by simp))
  clear hb HC0 HB0 hown0
  go_wp2_with fail
  refine (HC.out w1 HB1.out.1).mono ?_
  rintro e w2 ⟨u, l, rfl, hl, hok, hown, hb⟩
  have HM := Lib.hid (show ∀ c ∈ l, c.cl ∈ cs from fun c hc => lineS_mem (n := n) (by rw [← hl]; exact List.mem_map_of_mem hc))
  have hll : l.length ≤ 1000 := by rw [← ccls_len, hl]; omega
  have HE := Lib.hid (show mayS cs n = sortU ((mustS cs n ++ mayL (ccls l)).map lowS) by rw [mayS_eq, hl]; rfl)
  have HOK := Lib.hid hok
  obtain ⟨ao, cap, rfl⟩ := own_slc hown
  have HN := Lib.hid (show (Value.slice ao l.length cap).ownBlock = none ∨ (Value.slice ao l.length cap).ownBlock ≠ u0.ownBlock by
    cases e : (Value.slice ao l.length cap).ownBlock with
    | none => exact .inl rfl
    | some q =>
      refine .inr fun e2 => ?_
      have h1 := (hown.lt q e).1
      have h2 := (HO0.out.lt q e2.symm).2
      omega)
  have HOW := Lib.hid (hown.mono (base' := w.heap.size + 1) (by have := HB1.out.2; omega))
  have HO2 := Lib.hid (own_below HO0.out hb)
  have HB2 := Lib.hid (show Below w.heap.size w w2 ∧ w.heap.size + 1 ≤ w2.heap.size from ⟨HB1.out.1.trans (hb.mono HB1.out.1.size), Nat.le_trans HB1.out.2 hb.size⟩)
  clear hb hok hl hown HC HO0 HB1 hlen m0 m1
  obtain ⟨ms, hmse⟩ : ∃ ms, mustS cs n = ms := ⟨_, rfl⟩
  rw [hmse] at HE HS HO2 hms
  clear hmse
  go_wp2_with fail
  go_loopw [5, 7, 15] (fun s5 s7 i wr => ∃ (k : Nat), k ≤ l.length ∧ i = .int .i64 k ∧ Hid (wr.ownsRow (w.heap.size + 1) 9 1 s5 (ms ++ mayL (ccls (l.take k))).length (scells (ms ++ mayL (ccls (l.take k))))) ∧ Hid (wr.ownsRow (w.heap.size + 1) 64 4 (.slice ao l.length cap) l.length (ccells l)) ∧ Hid ((Value.slice ao l.length cap).ownBlock = none ∨ (Value.slice ao l.length cap).ownBlock ≠ s5.ownBlock) ∧ Hid (Below w.heap.size w wr ∧ w.heap.size + 1 ≤ wr.heap.size)) (fun _ _ i _ => l.length - (intOf i).toNat)
  case atStart => exact ⟨0, Nat.zero_le _, rfl, Lib.hid (by simpa [mayL, ccls] using HO2.out), HOW, HN, HB2⟩
  case round =>
    clear HO2 HOW HN HB2
    obtain ⟨k, hk, rfl, HO, HOW, HN, HB⟩ := hrel
    have hlen : (mayL (ccls (l.take k))).length ≤ 64000 := mayL_few HF.out (fun c hc => by
      obtain ⟨d, hd, rfl⟩ := List.mem_map.1 hc
      exact HM.out d (List.mem_of_mem_take hd)) (by rw [ccls_len, List.length_take]; omega)
    have hlen2 : (ms ++ mayL (ccls (l.take k))).length ≤ 128000 := by rw [List.length_append]; omega
    by_cases hlt : k < l.length
    · have d1 : (k : Int) < (l.length : Int) := by omega
      obtain ⟨g, cap', e, hg1, hg2⟩ := own_loc HOW.out (by omega)
      simp only [Value.slice.injEq] at e
      obtain ⟨rfl, _, rfl⟩ := e
      obtain ⟨c0, c1, c2, c3⟩ := cls_at HOW.out k hlt
      have hmem := cv_mem l k hlt
      have HT := Lib.hid (show ms ++ mayL (ccls (l.take (k + 1))) = (ms ++ mayL (ccls (l.take k))) ++ (l.getD k default).cl.may by rw [cv_take l k hlt, ccls_snoc, mayL_snoc, List.append_assoc])
      have hcm := HM.out _ hmem
      have hfw := (HF.out _ hcm).2
      obtain ⟨hHm, hHy⟩ := HOK.out _ hmem
      obtain ⟨d, hd⟩ : ∃ d, l.getD k default = d := ⟨_, rfl⟩
      rw [hd] at c0 c1 c2 c3 HT hfw hHm hHy
      clear hd hmem hcm
      obtain ⟨vo, vn, vc, e1, hv⟩ := hHy
      obtain ⟨uo, un, uc, e2, hu⟩ := hHm
      rw [e1] at c3
      rw [e2] at c2
      clear e1 e2 hu
      have hvn := hv.1
      have hal := (Below.refl wr.heap.size wr).alloc (Nat.le_refl _) (.cells #[.string d.cl.name, .string d.cl.super, .slice uo un uc, .slice vo vn vc] 64)
      have HV := Lib.hid (show StrsAt (wr.alloc (.cells #[.string d.cl.name, .string d.cl.super, .slice uo un uc, .slice vo vn vc] 64)) vo vn vc d.cl.may from ((hv.below (H0.out.trans (HB.out.1.mono H0.out.size))).below hal))
      have hown1 := HO.out.alloc (.cells #[.string d.cl.name, .string d.cl.super, .slice uo un uc, .slice vo vn vc] 64)
      have HW1 := Lib.hid (HOW.out.alloc (.cells #[.string d.cl.name, .string d.cl.super, .slice uo un uc, .slice vo vn vc] 64))
      have hsz1 : w.heap.size + 1 ≤ (wr.alloc (.cells #[.string d.cl.name, .string d.cl.super, .slice uo un uc, .slice vo vn vc] 64)).heap.size := by have := HB.out.2; simp; omega
      have HAL := Lib.hid (HB.out.1.trans (hal.mono (by have := HB.out.2; omega)))
      clear hv hal
      go_wp2_with (at_builtin; go_must (refine push_strs (wr.alloc (.cells #[.string d.cl.name, .string d.cl.super, .slice uo un uc, .slice vo vn vc] 64)) hown1 (.tmp 19) (.tmp 21) HV.out ?_ ?_ ?_ ?_ ?_ ?_ ?_; exact rfl; exact rfl; exact rfl; exact rfl; omega; exact hsz1; intro v3 w3 hown3 hg3 hl3))
      have HO3 := Lib.hid hown3
      have HB3 := Lib.hid (show Below w.heap.size w w3 ∧ w.heap.size + 1 ≤ w3.heap.size from ⟨HAL.out.grown hg3 (by omega) (fun q e => by have := (hown1.lt q e).1; omega), Nat.le_trans hsz1 hg3.size⟩)
      have HW3 := Lib.hid (HW1.out.kept hg3 HN.out)
      have HN3 := Lib.hid (show (Value.slice (some ⟨g, 0, none⟩) l.length cap).ownBlock = none ∨ (Value.slice (some ⟨g, 0, none⟩) l.length cap).ownBlock ≠ v3.ownBlock by
        rcases hl3 with h1 | h1
        · rw [h1]; exact HN.out
        · refine .inr fun e2 => ?_
          rw [h1] at e2
          have := (HOW.out.lt _ e2).2
          simp at this
          omega)
      clear hown3 hg3 hl3 hown1
      go_roundw
      case rel =>
        refine ⟨k + 1, by omega, by go_num, Lib.hid ?_, HW3, HN3, HB3⟩
        rw [HT.out, List.length_append, hvn, scells_app]
        exact HO3.out
      case measure => simp [intOf]; omega
    · obtain rfl : k = l.length := by omega
      have d1 : ¬ (l.length : Int) < (l.length : Int) := by omega
      rw [List.take_length] at HO hlen hlen2
      have HC := Lib.hid (ascendingF_s (w.heap.size + 1) _ _ (ms ++ mayL (ccls l)) wr HO.out rfl (by omega) (fun s hs => by
        rcases List.mem_append.1 hs with h | h
        · exact HS.out s h
        · obtain ⟨c, hc, hsc⟩ := List.mem_flatMap.1 h
          obtain ⟨d, hd, rfl⟩ := List.mem_map.1 hc
          exact (HZ.out _ (HM.out d hd)).2.2.2 s hsc) HB.out.2)
      go_wp2_with fail
      refine HC.out.mono ?_
      rintro e w3 ⟨u, rfl, ho, hb⟩
      have HO3 := Lib.hid ho
      have HB3 := Lib.hid (HB.out.1.trans (hb.mono (Nat.le_succ _)))
      clear ho hb
      go_wp2_with fail
      go_ret
      exact ⟨_, rfl, by rw [HE.out]; exact HO3.out, HB3.out⟩
end Go.Proofs.YtmmdaegdkikkpaaGreatDoor
end
