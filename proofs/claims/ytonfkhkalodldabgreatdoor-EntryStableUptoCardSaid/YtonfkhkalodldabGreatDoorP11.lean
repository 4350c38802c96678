/-
  Texts of the schema layer and of those beneath it, joined: SchTab, SchAdd, SchTac, SchTyp. Conditions stand at each contract.
-/
import Derived.Deep.RegionHeld3
import Derived.Test.YtonfkhkalodldabGreatDoorP02
import Derived.Test.YtonfkhkalodldabGreatDoorP03
import Derived.Test.YtonfkhkalodldabGreatDoorP10
set_option linter.unusedVariables false
set_option linter.unusedSimpArgs false
set_option linter.unnecessarySimpa false

section
/-
  Contracts of the table's typeOf and class: a type, a class looked up by its name. Condition: names of at most 1000000000 bytes.
-/
set_option maxRecDepth 100000
set_option maxRecDepth 100000
namespace Go.Proofs.YtonfkhkalodldabGreatDoor
open Go.RowKit Go.PlainAid
theorem frozen_later {w w' : World} {b i : Nat} (hb : Below w.heap.size w w') (hl : b < w.heap.size) (h : w.frozen? ⟨b, i, none⟩ = false) : w'.frozen? ⟨b, i, none⟩ = false := by
  unfold World.frozen? at *
  rw [show w'.heap[(⟨b, i, none⟩ : Addr).block]? = w.heap[(⟨b, i, none⟩ : Addr).block]? from hb.block b hl]
  exact h
theorem below_set1 {B : Nat} {a w : World} (h : Below B a w) (g i : Nat) (hg : B ≤ g) (u : Value) : Below B a (w.setCell ⟨g, i, none⟩ u) := h.setCell (p := ⟨g, i, none⟩) hg u
theorem set_size (w : World) (a : Addr) (u : Value) : (w.setCell a u).heap.size = w.heap.size := by simp [World.setCell]
theorem lsees {w W : World} {mv : Option Nat} {i : Nat} {t : TypeId} {k : ByteArray} {v : Value} {s : Nat} (h : ∀ W, Below w.heap.size w W → (Instr.lookup t (.map mv) (.string k) true).run Tryz.prog W = .ok v W) (c : W.cell? ⟨w.heap.size, i, none⟩ = some (.map mv)) (hb : Below w.heap.size w W) (hs : w.heap.size + s ≤ W.heap.size) :
    W.cell? ⟨w.heap.size, i, none⟩ = some (.map mv) ∧ (Instr.lookup t (.map mv) (.string k) true).run Tryz.prog W = .ok v W ∧ Hid (Below w.heap.size w W ∧ w.heap.size + s ≤ W.heap.size) := ⟨c, h W hb, Lib.hid ⟨hb, hs⟩⟩
theorem lsees_below {w W V : World} {mv : Option Nat} {i : Nat} {t : TypeId} {k : ByteArray} {v : Value} {s : Nat} (h : ∀ W, Below w.heap.size w W → (Instr.lookup t (.map mv) (.string k) true).run Tryz.prog W = .ok v W)
    (c : W.cell? ⟨w.heap.size, i, none⟩ = some (.map mv) ∧ (Instr.lookup t (.map mv) (.string k) true).run Tryz.prog W = .ok v W ∧ Hid (Below w.heap.size w W ∧ w.heap.size + s ≤ W.heap.size)) (hb : Below W.heap.size W V) :
    V.cell? ⟨w.heap.size, i, none⟩ = some (.map mv) ∧ (Instr.lookup t (.map mv) (.string k) true).run Tryz.prog V = .ok v V ∧ Hid (Below w.heap.size w V ∧ w.heap.size + s ≤ V.heap.size) :=
  lsees h (cell_later hb c.1) (c.2.2.out.1.trans (hb.mono (by have := c.2.2.out.2; omega))) (Nat.le_trans c.2.2.out.2 hb.size)
theorem lsees_set {w W : World} {mv : Option Nat} {i : Nat} {t : TypeId} {k : ByteArray} {v : Value} {s : Nat} (h : ∀ W, Below w.heap.size w W → (Instr.lookup t (.map mv) (.string k) true).run Tryz.prog W = .ok v W) (g j : Nat) (u : Value) (hg : w.heap.size < g)
    (c : W.cell? ⟨w.heap.size, i, none⟩ = some (.map mv) ∧ (Instr.lookup t (.map mv) (.string k) true).run Tryz.prog W = .ok v W ∧ Hid (Below w.heap.size w W ∧ w.heap.size + s ≤ W.heap.size)) :
    (W.setCell ⟨g, j, none⟩ u).cell? ⟨w.heap.size, i, none⟩ = some (.map mv) ∧ (Instr.lookup t (.map mv) (.string k) true).run Tryz.prog (W.setCell ⟨g, j, none⟩ u) = .ok v (W.setCell ⟨g, j, none⟩ u) ∧ Hid (Below w.heap.size w (W.setCell ⟨g, j, none⟩ u) ∧ w.heap.size + s ≤ (W.setCell ⟨g, j, none⟩ u).heap.size) :=
  lsees h ((World.cell?_of_block (heap_setCell_other W ⟨g, j, none⟩ w.heap.size u (by show w.heap.size ≠ g; omega))).trans c.1) (below_set1 c.2.2.out.1 g j (by omega) u) (by rw [set_size]; exact c.2.2.out.2)
/-- a class looked up: the zero class where there is none -/
def ClGot (w0 : World) (cs : List Cl) (n : ByteArray) (d : Cv) : Prop := (clOf cs n = none → d = zeroCv) ∧ ∀ c, clOf cs n = some c → d.cl = c ∧ CvOk w0 d
theorem TMap.looks {w : World} {mv : Option Nat} {ts : List Ty} (h : TMap w mv ts) (n : ByteArray) (hn : n.size ≤ 1000000000) :
    ∃ t : Ty, (tyOf ts n).getD zeroTy = t ∧ ∀ W, Below w.heap.size w W → (Instr.lookup 85 (.map mv) (.string (lowS n)) true).run Tryz.prog W = .ok (.tuple #[.agg #[.string t.name, .int .i64 t.syn, .bool t.single], .bool (tyOf ts n).isSome]) W := by
  refine ⟨_, rfl, fun W hb => ?_⟩
  rw [(h.below hb).look n hn]
  cases tyOf ts n <;> rfl
theorem CMap.looks {w0 w : World} {mv : Option Nat} {cs : List Cl} (h : CMap w0 w mv cs) (n : ByteArray) (hn : n.size ≤ 1000000000) :
    ∃ (d : Cv) (a1 : Option Addr) (p1 q1 : Nat) (a2 : Option Addr) (p2 q2 : Nat), d.hm = .slice a1 p1 q1 ∧ d.hy = .slice a2 p2 q2 ∧ ClGot w0 cs n d ∧
      ∀ W, Below w.heap.size w W → (Instr.lookup 86 (.map mv) (.string (lowS n)) true).run Tryz.prog W = .ok (.tuple #[.agg #[.string d.cl.name, .string d.cl.super, .slice a1 p1 q1, .slice a2 p2 q2], .bool (clOf cs n).isSome]) W := by
  obtain ⟨f, h, k⟩ := h
  have key : ∀ (z : Value) W, Below w.heap.size w W → (f (lowS n)).getD zeroClV = z → (f (lowS n)).isSome = (clOf cs n).isSome → (Instr.lookup 86 (.map mv) (.string (lowS n)) true).run Tryz.prog W = .ok (.tuple #[z, .bool (clOf cs n).isSome]) W := fun z W hb hz hs => by
    rw [(h.below hb).look_ok Tryz.underlying86 (Tryz.zeroValue106 _) (lowS n) (by rw [lowS_size]; unfold maxLen; omega), ← hz, ← hs]; rfl
  cases hc : clOf cs n with
  | none =>
    have hf := (k n).1 hc
    exact ⟨zeroCv, none, 0, 0, none, 0, 0, rfl, rfl, ⟨fun _ => rfl, fun c e => absurd (hc.symm.trans e) (by simp)⟩, fun W hb => by
      have := key zeroClV W hb (by rw [hf]; rfl) (by rw [hf, hc]; rfl)
      rw [hc] at this; exact this⟩
  | some c =>
    obtain ⟨d, e, ho, hf⟩ := (k n).2 c hc
    obtain ⟨⟨a1, p1, q1, e1, s1⟩, a2, p2, q2, e2, s2⟩ := ho
    refine ⟨d, a1, p1, q1, a2, p2, q2, e1, e2, ⟨(fun e => by rw [e] at hc; cases hc), fun c' e' => ⟨by rw [e]; rw [hc] at e'; exact Option.some.inj e', ⟨a1, p1, q1, e1, s1⟩, a2, p2, q2, e2, s2⟩⟩, fun W hb => ?_⟩
    have := key (cvV d) W hb (by rw [hf]; rfl) (by rw [hf, hc]; rfl)
    rw [hc] at this
    unfold cvV at this
    rw [e1, e2] at this
    exact this
set_option maxHeartbeats 4000000 in
theorem typeOf_s (mt mc : Option Nat) (ts : List Ty) (n : ByteArray) (w : World) (h : TMap w mt ts) (hn : n.size ≤ 1000000000) :
    Calls Tryz.prog 89 #[.agg #[.map mt, .map mc], .string n] w fun e w' => e = .returned (.tuple #[tyV ((tyOf ts n).getD zeroTy), .bool (tyOf ts n).isSome]) ∧ Below w.heap.size w w' := by
  obtain ⟨t, ht, hl⟩ := h.looks n hn
  unfold tyV
  rw [ht]
  obtain ⟨ok, hok⟩ : ∃ b, (tyOf ts n).isSome = b := ⟨_, rfl⟩
  rw [hok] at hl ⊢
  have HL := Lib.hid hl
  clear hl h hok ht
  have hb0 : Below w.heap.size w ((w.alloc (.cells #[.map mt, .map mc] 88)).alloc (.cells #[.string ⟨#[]⟩, .int .i64 0, .bool false] 104)) := ((Below.refl _ _).alloc (Nat.le_refl _) _).alloc (by simp) _
  have S0 := lsees (s := 2) (i := 0) (W := ((w.alloc (.cells #[.map mt, .map mc] 88)).alloc (.cells #[.string ⟨#[]⟩, .int .i64 0, .bool false] 104)).drew) HL.out (by go_simp) hb0.drew (by simp)
  clear hb0
  go_enter Tryz.func89, Tryz.ntmps89
  go_wp2_with fail
  refine wp_region_held_drew (S := fun W => W.cell? ⟨w.heap.size, 0, none⟩ = some (.map mt) ∧ (Instr.lookup 85 (.map mt) (.string (lowS n)) true).run Tryz.prog W = .ok (.tuple #[.agg #[.string t.name, .int .i64 t.syn, .bool t.single], .bool ok]) W ∧ Hid (Below w.heap.size w W ∧ w.heap.size + 2 ≤ W.heap.size)) (by kernel_rfl) (S0) (fun hS => ?_)
  refine wpAnyH_take (i := 0) (oi := { dst := some 9, op := _, type := _, pos := _, after := _, guard := _ }) (v := ?_) rfl (by kernel_rfl) (by kernel_rfl) (by kernel_rfl) (fun _ _ _ h => h) (Or.inl ⟨by rfl, ?_⟩) (by assumption) ?_
  rotate_left
  · intro w hSw
    try dsimp only at hSw
    go_simp
    try with_reducible rfl
  try simp only [Act.put, List.setIfInBounds_toArray, List.set_cons_zero, List.set_cons_succ]
  refine wpAnyH_take (i := 1) (oi := { dst := some 10, op := _, type := _, pos := _, after := _, guard := _ }) (v := ?_) rfl (by kernel_rfl) (by kernel_rfl) (by kernel_rfl) (fun _ _ _ h => h) (Or.inl ⟨by rfl, ?_⟩) (by assumption) ?_
  rotate_left
  · intro w hSw
    try dsimp only at hSw
    go_simp
    try with_reducible rfl
  try simp only [Act.put, List.setIfInBounds_toArray, List.set_cons_zero, List.set_cons_succ]
  refine wpAnyH_take (i := 2) (oi := { dst := some 11, op := _, type := _, pos := _, after := _, guard := _ }) (v := ?_) rfl (by kernel_rfl) (by kernel_rfl) (by kernel_rfl) (fun _ _ _ h => h) (Or.inl ⟨by rfl, ?_⟩) (by assumption) ?_
  rotate_left
  · intro w hSw
    try dsimp only at hSw
    go_simp
    try with_reducible rfl
  try simp only [Act.put, List.setIfInBounds_toArray, List.set_cons_zero, List.set_cons_succ]
  refine wpAnyH_ready (rs := [3, 8]) (by kernel_rfl) (by simp) ?_
  refine AllReadyH.cons rfl (fun K hK => ?_) (AllReadyH.cons rfl (fun K hK => ?_) AllReadyH.nil)
  · go_simp
    refine (lower_s n _ hn).mono ?_
    rintro e w5 ⟨rfl, hb⟩
    go_wp2_with fail
    refine hK.out _ _ ?_ (fun hHeld => ?_)
    · exact lsees_below HL.out (by assumption) hb
    clear hK K
    try simp only [Act.put, List.setIfInBounds_toArray, List.set_cons_zero, List.set_cons_succ]
    refine wpAnyH_take (i := 4) (oi := { dst := some 13, op := _, type := _, pos := _, after := _, guard := _ }) (v := ?_) rfl (by kernel_rfl) (by kernel_rfl) (by kernel_rfl) (fun _ _ _ h => h) (Or.inl ⟨by rfl, ?_⟩) (by assumption) ?_
    rotate_left
    · intro w hSw
      try dsimp only at hSw
      go_simp
      try with_reducible rfl
    try simp only [Act.put, List.setIfInBounds_toArray, List.set_cons_zero, List.set_cons_succ]
    refine wpAnyH_take (i := 5) (oi := { dst := some 8, op := _, type := _, pos := _, after := _, guard := _ }) (v := ?_) rfl (by kernel_rfl) (by kernel_rfl) (by kernel_rfl) (fun _ _ _ h => h) (Or.inl ⟨by rfl, ?_⟩) (by assumption) ?_
    rotate_left
    · intro w hSw
      try dsimp only at hSw
      go_simp
      try with_reducible rfl
    try simp only [Act.put, List.setIfInBounds_toArray, List.set_cons_zero, List.set_cons_succ]
    refine wpAnyH_take (i := 6) (oi := { dst := some 14, op := _, type := _, pos := _, after := _, guard := _ }) (v := ?_) rfl (by kernel_rfl) (by kernel_rfl) (by kernel_rfl) (fun _ _ _ h => h) (Or.inl ⟨by rfl, ?_⟩) (by assumption) ?_
    rotate_left
    · intro w hSw
      try dsimp only at hSw
      go_simp
      try with_reducible rfl
    try simp only [Act.put, List.setIfInBounds_toArray, List.set_cons_zero, List.set_cons_succ]
    refine wpAnyH_take (i := 7) (oi := { dst := some 15, op := _, type := _, pos := _, after := _, guard := _ }) (v := ?_) rfl (by kernel_rfl) (by kernel_rfl) (by kernel_rfl) (fun _ _ _ h => h) (Or.inl ⟨by rfl, ?_⟩) (by assumption) ?_
    rotate_left
    · intro w hSw
      try dsimp only at hSw
      go_simp
      try with_reducible rfl
    try simp only [Act.put, List.setIfInBounds_toArray, List.set_cons_zero, List.set_cons_succ]
    refine wpAnyH_ready (rs := [8]) (by kernel_rfl) (by simp) ?_
    refine AllReadyH.cons rfl (fun K hK => ?_) AllReadyH.nil
    go_simp
    refine hK.out _ _ ?_ (fun hHeld => ?_)
    · exact lsees_below HL.out (by assumption) ((Below.refl _ _).alloc (Nat.le_refl _) _)
    clear hK K
    try simp only [Act.put, List.setIfInBounds_toArray, List.set_cons_zero, List.set_cons_succ]
    refine wpAnyH_ready (rs := [9]) (by kernel_rfl) (by simp) ?_
    refine AllReadyH.cons rfl (fun K hK => ?_) AllReadyH.nil
    go_simp
    refine hK.out _ _ ?_ (fun hHeld => ?_)
    · exact lsees_below HL.out (by assumption) ((Below.refl _ w5).alloc (Nat.le_refl _) _)
    clear hK K
    try simp only [Act.put, List.setIfInBounds_toArray, List.set_cons_zero, List.set_cons_succ]
    refine wpAnyH_take (i := 10) (oi := { dst := some 7, op := _, type := _, pos := _, after := _, guard := _ }) (v := ?_) rfl (by kernel_rfl) (by kernel_rfl) (by kernel_rfl) (fun _ _ _ h => h) (Or.inl ⟨by rfl, ?_⟩) (by assumption) ?_
    rotate_left
    · intro w hSw
      try dsimp only at hSw
      go_simp
      try with_reducible rfl
    try simp only [Act.put, List.setIfInBounds_toArray, List.set_cons_zero, List.set_cons_succ]
    refine wpAnyH_done (by kernel_rfl) ?_ _
    have hS5 : (fun W => W.cell? ⟨w.heap.size, 0, none⟩ = some (.map mt) ∧ (Instr.lookup 85 (.map mt) (.string (lowS n)) true).run Tryz.prog W = .ok (.tuple #[.agg #[.string t.name, .int .i64 t.syn, .bool t.single], .bool ok]) W ∧ Hid (Below w.heap.size w W ∧ w.heap.size + 2 ≤ W.heap.size)) w5 := by assumption
    have hB5 := hS5.2.2
    have e0 : w5.cell? ⟨w.heap.size + 1, 0, none⟩ = some (.string ⟨#[]⟩) := cell_later hb (by go_simp)
    have e1 : w5.cell? ⟨w.heap.size + 1, 1, none⟩ = some (.int .i64 0) := cell_later hb (by go_simp)
    have e2 : w5.cell? ⟨w.heap.size + 1, 2, none⟩ = some (.bool false) := cell_later hb (by go_simp)
    have fe0 := frozen_later (i := 0) hb (b := w.heap.size + 1) (by simp) (by go_simp)
    have fe1 := frozen_later (i := 1) hb (b := w.heap.size + 1) (by simp) (by go_simp)
    have fe2 := frozen_later (i := 2) hb (b := w.heap.size + 1) (by simp) (by go_simp)
    have hlt : w.heap.size + 1 < w5.heap.size := hB5.out.2
    clear hS5
    go_wp2_with fail
    refine bodyPost_ret (v := .tuple #[.agg #[.string t.name, .int .i64 t.syn, .bool t.single], .bool ok]) (by simp only [results, Tryz.results89]; go_simp) rfl ?_
    refine ⟨rfl, ?_⟩
    have hf : w.heap.size ≤ w.heap.size + 1 := Nat.le_succ _
    have hg : w.heap.size ≤ w.heap.size + 1 + 1 := Nat.le_succ_of_le (Nat.le_succ _)
    exact (below_set1 (below_set1 (below_set1 (hB5.out.1) (w.heap.size + 1) 0 hf _) (w.heap.size + 1) 1 hf _) (w.heap.size + 1) 2 hf _).alloc (by simp only [set_size]; omega) _
  · go_simp
    refine hK.out _ _ ?_ (fun hHeld => ?_)
    · exact lsees_below HL.out (by assumption) ((Below.refl _ _).alloc (Nat.le_refl _) _)
    clear hK K
    try simp only [Act.put, List.setIfInBounds_toArray, List.set_cons_zero, List.set_cons_succ]
    refine wpAnyH_ready (rs := [3]) (by kernel_rfl) (by simp) ?_
    refine AllReadyH.cons rfl (fun K hK => ?_) AllReadyH.nil
    go_simp
    refine (lower_s n _ hn).mono ?_
    rintro e w5 ⟨rfl, hb⟩
    have c0 : w5.cell? ⟨w.heap.size + 1 + 1, 0, none⟩ = some (.string ⟨#[]⟩) := cell_later hb (by go_simp)
    have c1 : w5.cell? ⟨w.heap.size + 1 + 1, 1, none⟩ = some (.int .i64 0) := cell_later hb (by go_simp)
    have c2 : w5.cell? ⟨w.heap.size + 1 + 1, 2, none⟩ = some (.bool false) := cell_later hb (by go_simp)
    have fc0 := frozen_later (i := 0) hb (b := w.heap.size + 1 + 1) (by simp) (by go_simp)
    have fc1 := frozen_later (i := 1) hb (b := w.heap.size + 1 + 1) (by simp) (by go_simp)
    have fc2 := frozen_later (i := 2) hb (b := w.heap.size + 1 + 1) (by simp) (by go_simp)
    go_wp2_with fail
    refine hK.out _ _ ?_ (fun hHeld => ?_)
    · exact lsees_below HL.out (by assumption) hb
    clear hK K
    try simp only [Act.put, List.setIfInBounds_toArray, List.set_cons_zero, List.set_cons_succ]
    refine wpAnyH_take (i := 4) (oi := { dst := some 13, op := _, type := _, pos := _, after := _, guard := _ }) (v := ?_) rfl (by kernel_rfl) (by kernel_rfl) (by kernel_rfl) (fun _ _ _ h => h) (Or.inl ⟨by rfl, ?_⟩) (by assumption) ?_
    rotate_left
    · intro w hSw
      try dsimp only at hSw
      go_simp
      try with_reducible rfl
    try simp only [Act.put, List.setIfInBounds_toArray, List.set_cons_zero, List.set_cons_succ]
    refine wpAnyH_take (i := 5) (oi := { dst := some 8, op := _, type := _, pos := _, after := _, guard := _ }) (v := ?_) rfl (by kernel_rfl) (by kernel_rfl) (by kernel_rfl) (fun _ _ _ h => h) (Or.inl ⟨by rfl, ?_⟩) (by assumption) ?_
    rotate_left
    · intro w hSw
      try dsimp only at hSw
      go_simp
      try with_reducible rfl
    try simp only [Act.put, List.setIfInBounds_toArray, List.set_cons_zero, List.set_cons_succ]
    refine wpAnyH_take (i := 6) (oi := { dst := some 14, op := _, type := _, pos := _, after := _, guard := _ }) (v := ?_) rfl (by kernel_rfl) (by kernel_rfl) (by kernel_rfl) (fun _ _ _ h => h) (Or.inl ⟨by rfl, ?_⟩) (by assumption) ?_
    rotate_left
    · intro w hSw
      try dsimp only at hSw
      go_simp
      try with_reducible rfl
    try simp only [Act.put, List.setIfInBounds_toArray, List.set_cons_zero, List.set_cons_succ]
    refine wpAnyH_take (i := 7) (oi := { dst := some 15, op := _, type := _, pos := _, after := _, guard := _ }) (v := ?_) rfl (by kernel_rfl) (by kernel_rfl) (by kernel_rfl) (fun _ _ _ h => h) (Or.inl ⟨by rfl, ?_⟩) (by assumption) ?_
    rotate_left
    · intro w hSw
      try dsimp only at hSw
      go_simp
      try with_reducible rfl
    try simp only [Act.put, List.setIfInBounds_toArray, List.set_cons_zero, List.set_cons_succ]
    refine wpAnyH_ready (rs := [9]) (by kernel_rfl) (by simp) ?_
    refine AllReadyH.cons rfl (fun K hK => ?_) AllReadyH.nil
    go_simp
    refine hK.out _ _ ?_ (fun hHeld => ?_)
    · exact (lsees_set HL.out (w.heap.size + 1 + 1) 2 _ (Nat.lt_succ_of_le (Nat.le_succ _)) (lsees_set HL.out (w.heap.size + 1 + 1) 1 _ (Nat.lt_succ_of_le (Nat.le_succ _)) (lsees_set HL.out (w.heap.size + 1 + 1) 0 _ (Nat.lt_succ_of_le (Nat.le_succ _)) (by assumption))))
    clear hK K
    try simp only [Act.put, List.setIfInBounds_toArray, List.set_cons_zero, List.set_cons_succ]
    refine wpAnyH_take (i := 10) (oi := { dst := some 7, op := _, type := _, pos := _, after := _, guard := _ }) (v := ?_) rfl (by kernel_rfl) (by kernel_rfl) (by kernel_rfl) (fun _ _ _ h => h) (Or.inl ⟨by rfl, ?_⟩) (by assumption) ?_
    rotate_left
    · intro w hSw
      try dsimp only at hSw
      go_simp
      try with_reducible rfl
    try simp only [Act.put, List.setIfInBounds_toArray, List.set_cons_zero, List.set_cons_succ]
    refine wpAnyH_done (by kernel_rfl) ?_ _
    have hS5 : (fun W => W.cell? ⟨w.heap.size, 0, none⟩ = some (.map mt) ∧ (Instr.lookup 85 (.map mt) (.string (lowS n)) true).run Tryz.prog W = .ok (.tuple #[.agg #[.string t.name, .int .i64 t.syn, .bool t.single], .bool ok]) W ∧ Hid (Below w.heap.size w W ∧ w.heap.size + 2 ≤ W.heap.size)) w5 := by assumption
    have hB5 := hS5.2.2
    have e0 : w5.cell? ⟨w.heap.size + 1, 0, none⟩ = some (.string ⟨#[]⟩) := cell_later hb (by go_simp)
    have e1 : w5.cell? ⟨w.heap.size + 1, 1, none⟩ = some (.int .i64 0) := cell_later hb (by go_simp)
    have e2 : w5.cell? ⟨w.heap.size + 1, 2, none⟩ = some (.bool false) := cell_later hb (by go_simp)
    have fe0 := frozen_later (i := 0) hb (b := w.heap.size + 1) (by simp) (by go_simp)
    have fe1 := frozen_later (i := 1) hb (b := w.heap.size + 1) (by simp) (by go_simp)
    have fe2 := frozen_later (i := 2) hb (b := w.heap.size + 1) (by simp) (by go_simp)
    have hlt : w.heap.size + 1 < w5.heap.size := hB5.out.2
    clear hS5
    go_wp2_with fail
    refine bodyPost_ret (v := .tuple #[.agg #[.string t.name, .int .i64 t.syn, .bool t.single], .bool ok]) (by simp only [results, Tryz.results89]; go_simp) rfl ?_
    refine ⟨rfl, ?_⟩
    have hf : w.heap.size ≤ w.heap.size + 1 := Nat.le_succ _
    have hg : w.heap.size ≤ w.heap.size + 1 + 1 := Nat.le_succ_of_le (Nat.le_succ _)
    exact below_set1 (below_set1 (below_set1 (below_set1 (below_set1 (below_set1 (hB5.out.1) (w.heap.size + 1 + 1) 0 hg _) (w.heap.size + 1 + 1) 1 hg _) (w.heap.size + 1 + 1) 2 hg _) (w.heap.size + 1) 0 hf _) (w.heap.size + 1) 1 hf _) (w.heap.size + 1) 2 hf _
end Go.Proofs.YtonfkhkalodldabGreatDoor
end

section
/-
  Contract of the table's addType: a type is put in, unless it has an error. Condition: fewer than 1100000 types, names of at most 1000000000 bytes.
-/
set_option maxRecDepth 100000
set_option maxRecDepth 100000
namespace Go.Proofs.YtonfkhkalodldabGreatDoor
open Go.RowKit Go.PlainAid
/-- the error of a type that comes behind others -/
def errTy (ts : List Ty) (t : Ty) : Int :=
  if nameB t.name = false then 5 else if (tyOf ts t.name).isSome = true then 7 else if t.syn < 1 ∨ 5 < t.syn then 8 else 0
theorem errT_take (ts : List Ty) (j : Nat) : errT ts j = errTy (ts.take j) (tyAt ts j) := rfl
theorem grown_of_below {w w' : World} {row : Option Nat} (h : Below w.heap.size w w') : w.grownBy w' row := ⟨h.os, h.tape, h.output, h.size, fun k hk _ => h.block k hk⟩
theorem keepG {w w1 w2 : World} {row : Option Nat} {f : Nat} (h : Hid (w.grownBy w1 row ∧ f ≤ w1.heap.size)) (hb : Below w1.heap.size w1 w2) : Hid (w.grownBy w2 row ∧ f ≤ w2.heap.size) :=
  Lib.hid ⟨grown_two h.out.1 (grown_of_below hb), Nat.le_trans h.out.2 hb.size⟩
theorem keepGG {w w1 w2 : World} {row : Option Nat} {f : Nat} (h : Hid (w.grownBy w1 row ∧ f ≤ w1.heap.size)) (hb : w1.grownBy w2 row) : Hid (w.grownBy w2 row ∧ f ≤ w2.heap.size) :=
  Lib.hid ⟨grown_two h.out.1 hb, Nat.le_trans h.out.2 hb.size⟩
theorem keepG5 {w w1 w2 : World} {row : Option Nat} {f : Nat} {A B C D : Addr} {x y z u : Value} (h : w1.cell? A = some x ∧ w1.cell? B = some y ∧ w1.cell? C = some z ∧ w1.cell? D = some u ∧ Hid (w.grownBy w1 row ∧ f ≤ w1.heap.size)) (hb : Below w1.heap.size w1 w2) :
    w2.cell? A = some x ∧ w2.cell? B = some y ∧ w2.cell? C = some z ∧ w2.cell? D = some u ∧ Hid (w.grownBy w2 row ∧ f ≤ w2.heap.size) :=
  ⟨cell_later hb h.1, cell_later hb h.2.1, cell_later hb h.2.2.1, cell_later hb h.2.2.2.1, keepG h.2.2.2.2 hb⟩
theorem cell_turned {w w' : World} {g : Nat} {A : Addr} {x : Value} (h : w.cell? A = some x) (hg : w.grownBy w' (some g)) (hA : A.block ≠ g) : w'.cell? A = some x := hg.cell h (fun e => hA (Option.some.inj e))
theorem keepGG5 {w w1 w2 : World} {g : Nat} {f : Nat} {A B C D : Addr} {x y z u : Value} (h : w1.cell? A = some x ∧ w1.cell? B = some y ∧ w1.cell? C = some z ∧ w1.cell? D = some u ∧ Hid (w.grownBy w1 (some g) ∧ f ≤ w1.heap.size)) (hb : w1.grownBy w2 (some g))
    (hA : A.block ≠ g) (hB : B.block ≠ g) (hC : C.block ≠ g) (hD : D.block ≠ g) :
    w2.cell? A = some x ∧ w2.cell? B = some y ∧ w2.cell? C = some z ∧ w2.cell? D = some u ∧ Hid (w.grownBy w2 (some g) ∧ f ≤ w2.heap.size) :=
  ⟨cell_turned h.1 hb hA, cell_turned h.2.1 hb hB, cell_turned h.2.2.1 hb hC, cell_turned h.2.2.2.1 hb hD, keepGG h.2.2.2.2 hb⟩
set_option maxHeartbeats 4000000 in
theorem addType_s (bt : Nat) (mc : Option Nat) (k : Nat) (ts : List Ty) (t : Ty) (w : World) (h : TOpen w bt k ts) (hk : k < 1100000) (hz : t.name.size ≤ 1000000000) :
    Calls Tryz.prog 118 #[.agg #[.map (some bt), .map mc], .agg #[.string t.name, .int .i64 t.syn, .bool t.single]] w fun e w' =>
      e = .returned (.int .i64 (errTy ts t)) ∧ w.grownBy w' (some bt) ∧ (errTy ts t = 0 → TOpen w' bt (k + 1) (ts ++ [t])) := by
  obtain ⟨nm, syn, sg⟩ := t
  simp only at hz ⊢
  have hbl : bt < w.heap.size := h.lt
  have hb0 : Below w.heap.size w ((w.alloc (.cells #[.map (some bt), .map mc] 88)).alloc (.cells #[.string nm, .int .i64 syn, .bool sg] 104)) := ((Below.refl _ _).alloc (Nat.le_refl _) _).alloc (by simp) _
  have HB0 := Lib.hid hb0
  have HO := Lib.hid h
  have HC := Lib.hid (typeOf_s (some bt) mc ts nm _ (h.map.below hb0) hz)
  obtain ⟨u, hu⟩ : ∃ u, (tyOf ts nm).getD zeroTy = u := ⟨_, rfl⟩
  obtain ⟨tw, htw⟩ : ∃ b, (tyOf ts nm).isSome = b := ⟨_, rfl⟩
  unfold tyV at HC
  rw [hu, htw] at HC
  have HW := Lib.hid htw
  clear h hu htw hb0
  obtain ⟨nb, hnb⟩ : ∃ b, nameB nm = b := ⟨_, rfl⟩
  have HNB := Lib.hid hnb; clear hnb
  obtain ⟨d1, hd1⟩ : ∃ b, decide (syn < 1) = b := ⟨_, rfl⟩
  obtain ⟨d2, hd2⟩ : ∃ b, decide (5 < syn) = b := ⟨_, rfl⟩
  have HE := Lib.hid (show errTy ts ⟨nm, syn, sg⟩ = if nb = false then 5 else if tw = true then 7 else if d1 = true ∨ d2 = true then 8 else 0 by
    unfold errTy; simp only; rw [HNB.out, HW.out, ← hd1, ← hd2]; simp)
  go_enter Tryz.func118, Tryz.ntmps118
  go_wp2_with fail
  refine HC.out.mono ?_
  rintro e w1 ⟨rfl, hb⟩
  have a0 : w1.cell? ⟨w.heap.size + 1, 0, none⟩ = some (.string nm) := cell_later hb (by go_simp)
  have a1 : w1.cell? ⟨w.heap.size + 1, 1, none⟩ = some (.int .i64 syn) := cell_later hb (by go_simp)
  have a2 : w1.cell? ⟨w.heap.size + 1, 2, none⟩ = some (.bool sg) := cell_later hb (by go_simp)
  have a3 : w1.cell? ⟨w.heap.size, 0, none⟩ = some (.map (some bt)) := cell_later hb (by go_simp)
  have hs1 : w.heap.size + 1 < w1.heap.size := by have := hb.size; simp at this; omega
  have HB1 := Lib.hid (HB0.out.trans (hb.mono (by simp; omega)))
  clear hb HB0 HC
  go_wp2_with fail
  refine (name_s nm _ hz).mono ?_
  rintro e w2 ⟨rfl, rfl⟩
  rw [HNB.out]
  have HG := Lib.hid (grown_of_below (row := some bt) (HB1.out.alloc (by omega) (.cells #[.string u.name, .int .i64 u.syn, .bool u.single] 104)))
  have fin : ∀ c, errTy ts ⟨nm, syn, sg⟩ = c → c ≠ 0 → ∀ W, w.grownBy W (some bt) → (Ending.returned (.int .i64 c) = .returned (.int .i64 (errTy ts ⟨nm, syn, sg⟩)) ∧ w.grownBy W (some bt) ∧ (errTy ts ⟨nm, syn, sg⟩ = 0 → TOpen W bt (k + 1) (ts ++ [⟨nm, syn, sg⟩]))) :=
    fun c h1 h2 W h3 => ⟨by rw [h1], h3, fun h => absurd (h1.symm.trans h) h2⟩
  have FIN := Lib.hid fin; clear fin
  cases nb
  · have HE5 := Lib.hid (HE.out.trans rfl)
    go_wp2_with fail
    go_ret
    exact FIN.out 5 HE5.out (by decide) _ HG.out
  · cases tw
    · cases d1
      · cases d2
        · have HE5 := Lib.hid (show errTy ts ⟨nm, syn, sg⟩ = 0 from HE.out.trans (by simp))
          have hnone : tyOf ts nm = none := by
            have := HW.out
            cases e : tyOf ts nm with
            | none => rfl
            | some x => rw [e] at this; cases this
          have HN := Lib.hid hnone; clear hnone
          have HX : Hid (Below w1.heap.size w1 (w1.alloc (.cells #[.string u.name, .int .i64 u.syn, .bool u.single] 104)).drew) := Lib.hid ((Below.refl _ _).alloc (Nat.le_refl _) _).drew
          have S0 := keepG5 (f := w.heap.size + 2) ⟨a3, a0, a1, a2, Lib.hid ⟨grown_of_below (row := some bt) HB1.out, by omega⟩⟩ HX.out
          go_wp2_with fail
          refine wp_region_held_drew (S := fun W => W.cell? ⟨w.heap.size, 0, none⟩ = some (.map (some bt)) ∧ W.cell? ⟨w.heap.size + 1, 0, none⟩ = some (.string nm) ∧ W.cell? ⟨w.heap.size + 1, 1, none⟩ = some (.int .i64 syn) ∧ W.cell? ⟨w.heap.size + 1, 2, none⟩ = some (.bool sg) ∧ Hid (w.grownBy W (some bt) ∧ w.heap.size + 2 ≤ W.heap.size)) (by kernel_rfl) (S0) (fun hS => ?_)
          refine wpAnyH_take (i := 0) (oi := { dst := some 30, op := _, type := _, pos := _, after := _, guard := _ }) (v := ?_) rfl (by kernel_rfl) (by kernel_rfl) (by kernel_rfl) (fun _ _ _ h => h) (Or.inl ⟨by rfl, ?_⟩) (by assumption) ?_
          rotate_left
          · intro w hSw
            try dsimp only at hSw
            go_simp
            try with_reducible rfl
          try simp only [Act.put, List.setIfInBounds_toArray, List.set_cons_zero, List.set_cons_succ]
          refine wpAnyH_take (i := 1) (oi := { dst := some 31, op := _, type := _, pos := _, after := _, guard := _ }) (v := ?_) rfl (by kernel_rfl) (by kernel_rfl) (by kernel_rfl) (fun _ _ _ h => h) (Or.inl ⟨by rfl, ?_⟩) (by assumption) ?_
          rotate_left
          · intro w hSw
            try dsimp only at hSw
            go_simp
            try with_reducible rfl
          try simp only [Act.put, List.setIfInBounds_toArray, List.set_cons_zero, List.set_cons_succ]
          refine wpAnyH_take (i := 2) (oi := { dst := some 32, op := _, type := _, pos := _, after := _, guard := _ }) (v := ?_) rfl (by kernel_rfl) (by kernel_rfl) (by kernel_rfl) (fun _ _ _ h => h) (Or.inl ⟨by rfl, ?_⟩) (by assumption) ?_
          rotate_left
          · intro w hSw
            try dsimp only at hSw
            go_simp
            try with_reducible rfl
          try simp only [Act.put, List.setIfInBounds_toArray, List.set_cons_zero, List.set_cons_succ]
          refine wpAnyH_take (i := 3) (oi := { dst := some 33, op := _, type := _, pos := _, after := _, guard := _ }) (v := ?_) rfl (by kernel_rfl) (by kernel_rfl) (by kernel_rfl) (fun _ _ _ h => h) (Or.inl ⟨by rfl, ?_⟩) (by assumption) ?_
          rotate_left
          · intro w hSw
            try dsimp only at hSw
            go_simp
            try with_reducible rfl
          try simp only [Act.put, List.setIfInBounds_toArray, List.set_cons_zero, List.set_cons_succ]
          refine wpAnyH_take (i := 5) (oi := { dst := some 35, op := _, type := _, pos := _, after := _, guard := _ }) (v := ?_) rfl (by kernel_rfl) (by kernel_rfl) (by kernel_rfl) (fun _ _ _ h => h) (Or.inl ⟨by rfl, ?_⟩) (by assumption) ?_
          rotate_left
          · intro w hSw
            try dsimp only at hSw
            go_simp
            try with_reducible rfl
          try simp only [Act.put, List.setIfInBounds_toArray, List.set_cons_zero, List.set_cons_succ]
          refine wpAnyH_ready (rs := [4]) (by kernel_rfl) (by simp) ?_
          refine AllReadyH.cons rfl (fun K hK => ?_) AllReadyH.nil
          go_simp
          refine (lower_s nm _ hz).mono ?_
          rintro e w5 ⟨rfl, hb⟩
          have hT5 := (HO.out.below HB1.out hbl).below (HX.out.trans (hb.mono (by simp))) (by omega)
          obtain ⟨w6, hrun6, hT6, hg6⟩ := hT5.store ⟨nm, syn, sg⟩ hk hz HN.out
          clear hT5
          unfold tyV at hrun6
          dsimp only at hrun6
          go_wp2_with fail
          refine hK.out _ _ ?_ (fun hHeld => ?_)
          · exact keepG5 (by assumption) hb
          clear hK K
          try simp only [Act.put, List.setIfInBounds_toArray, List.set_cons_zero, List.set_cons_succ]
          refine wpAnyH_ready (rs := [6]) (by kernel_rfl) (by simp) ?_
          refine AllReadyH.cons rfl (fun K hK => ?_) AllReadyH.nil
          go_simp
          refine hK.out _ _ ?_ (fun hHeld => ?_)
          · exact keepGG5 (by assumption) hg6 (by show w.heap.size ≠ bt; omega) (by show w.heap.size + 1 ≠ bt; omega) (by show w.heap.size + 1 ≠ bt; omega) (by show w.heap.size + 1 ≠ bt; omega)
          clear hK K
          try simp only [Act.put, List.setIfInBounds_toArray, List.set_cons_zero, List.set_cons_succ]
          refine wpAnyH_done (by kernel_rfl) ?_ _
          have hS6 : w6.cell? ⟨w.heap.size, 0, none⟩ = some (.map (some bt)) ∧ w6.cell? ⟨w.heap.size + 1, 0, none⟩ = some (.string nm) ∧ w6.cell? ⟨w.heap.size + 1, 1, none⟩ = some (.int .i64 syn) ∧ w6.cell? ⟨w.heap.size + 1, 2, none⟩ = some (.bool sg) ∧ Hid (w.grownBy w6 (some bt) ∧ w.heap.size + 2 ≤ w6.heap.size) := by assumption
          have HG6 := hS6.2.2.2.2
          have HT6 := Lib.hid hT6
          clear hS6 hT6 hg6 hrun6 hb
          go_wp2_with fail
          go_ret
          exact ⟨by rw [HE5.out]; rfl, HG6.out.1, fun _ => HT6.out⟩
        · have HE5 := Lib.hid (HE.out.trans rfl)
          go_wp2_with fail
          go_ret
          exact FIN.out 8 HE5.out (by decide) _ HG.out
      · have HE5 := Lib.hid (HE.out.trans rfl)
        go_wp2_with fail
        go_ret
        exact FIN.out 8 HE5.out (by decide) _ HG.out
    · have HE5 := Lib.hid (HE.out.trans rfl)
      go_wp2_with fail
      go_ret
      exact FIN.out 7 HE5.out (by decide) _ HG.out
end Go.Proofs.YtonfkhkalodldabGreatDoor
end

section
/-
  Contracts of the table's class: a class looked up by its name. Condition: names of at most 1000000000 bytes.
-/
set_option maxRecDepth 100000
set_option maxRecDepth 100000
namespace Go.Proofs.YtonfkhkalodldabGreatDoor
open Go.RowKit Go.PlainAid
set_option maxHeartbeats 4000000 in
theorem class_s (mt mc : Option Nat) (w0 : World) (cs : List Cl) (n : ByteArray) (w : World) (h : CMap w0 w mc cs) (hn : n.size ≤ 1000000000) :
    Calls Tryz.prog 92 #[.agg #[.map mt, .map mc], .string n] w fun e w' => ∃ (d : Cv) (a1 : Option Addr) (p1 q1 : Nat) (a2 : Option Addr) (p2 q2 : Nat), d.hm = .slice a1 p1 q1 ∧ d.hy = .slice a2 p2 q2 ∧ ClGot w0 cs n d ∧
      e = .returned (.tuple #[.agg #[.string d.cl.name, .string d.cl.super, .slice a1 p1 q1, .slice a2 p2 q2], .bool (clOf cs n).isSome]) ∧ Below w.heap.size w w' := by
  obtain ⟨d, a1, p1, q1, a2, p2, q2, h1, h2, hg, hl⟩ := h.looks n hn
  obtain ⟨ok, hok⟩ : ∃ b, (clOf cs n).isSome = b := ⟨_, rfl⟩
  rw [hok] at hl ⊢
  obtain ⟨nm, hnm⟩ : ∃ x, d.cl.name = x := ⟨_, rfl⟩
  obtain ⟨su, hsu⟩ : ∃ x, d.cl.super = x := ⟨_, rfl⟩
  rw [hnm, hsu] at hl
  have HL := Lib.hid hl
  have HG := Lib.hid (And.intro h1 (And.intro h2 (And.intro hg (And.intro hnm hsu))))
  clear hl h hok h1 h2 hg hnm hsu
  have hb0 : Below w.heap.size w ((w.alloc (.cells #[.map mt, .map mc] 88)).alloc (.cells #[.string ⟨#[]⟩, .string ⟨#[]⟩, .slice none 0 0, .slice none 0 0] 106)) := ((Below.refl _ _).alloc (Nat.le_refl _) _).alloc (by simp) _
  have S0 := lsees (s := 2) (i := 1) (W := ((w.alloc (.cells #[.map mt, .map mc] 88)).alloc (.cells #[.string ⟨#[]⟩, .string ⟨#[]⟩, .slice none 0 0, .slice none 0 0] 106)).drew) HL.out (by go_simp) hb0.drew (by simp)
  clear hb0
  go_enter Tryz.func92, Tryz.ntmps92
  go_wp2_with fail
  refine wp_region_held_drew (S := fun W => W.cell? ⟨w.heap.size, 1, none⟩ = some (.map mc) ∧ (Instr.lookup 86 (.map mc) (.string (lowS n)) true).run Tryz.prog W = .ok (.tuple #[.agg #[.string nm, .string su, .slice a1 p1 q1, .slice a2 p2 q2], .bool ok]) W ∧ Hid (Below w.heap.size w W ∧ w.heap.size + 2 ≤ W.heap.size)) (by kernel_rfl) (S0) (fun hS => ?_)
  refine wpAnyH_take (i := 0) (oi := { dst := some 9, op := _, type := _, pos := _, after := _, guard := _ }) (v := ?_) rfl (by kernel_rfl) (by kernel_rfl) (by kernel_rfl) (fun _ _ _ h => h) (Or.inl ⟨by rfl, ?_⟩) (by assumption) ?_
  rotate_left
  · intro w hSw
    try dsimp only at hSw
    go_simp
    try with_reducible rfl
  try simp only [Act.put, List.setIfInBounds_toArray, List.set_cons_zero, List.set_cons_succ]
  refine wpAnyH_take (i := 1) (oi := { dst := some 10, op := _, type := _, pos := _, after := _, guard := _ }) (v := ?_) rfl (by kernel_rfl) (by kernel_rfl) (by kernel_rfl) (fun _ _ _ h => h) (Or.inl ⟨by rfl, ?_⟩) (by assumption) ?_
  rotate_left
  · intro w hSw
    try dsimp only at hSw
    go_simp
    try with_reducible rfl
  try simp only [Act.put, List.setIfInBounds_toArray, List.set_cons_zero, List.set_cons_succ]
  refine wpAnyH_take (i := 2) (oi := { dst := some 11, op := _, type := _, pos := _, after := _, guard := _ }) (v := ?_) rfl (by kernel_rfl) (by kernel_rfl) (by kernel_rfl) (fun _ _ _ h => h) (Or.inl ⟨by rfl, ?_⟩) (by assumption) ?_
  rotate_left
  · intro w hSw
    try dsimp only at hSw
    go_simp
    try with_reducible rfl
  try simp only [Act.put, List.setIfInBounds_toArray, List.set_cons_zero, List.set_cons_succ]
  refine wpAnyH_ready (rs := [3, 8]) (by kernel_rfl) (by simp) ?_
  refine AllReadyH.cons rfl (fun K hK => ?_) (AllReadyH.cons rfl (fun K hK => ?_) AllReadyH.nil)
  · go_simp
    refine (lower_s n _ hn).mono ?_
    rintro e w5 ⟨rfl, hb⟩
    go_wp2_with fail
    refine hK.out _ _ ?_ (fun hHeld => ?_)
    · exact lsees_below HL.out (by assumption) hb
    clear hK K
    try simp only [Act.put, List.setIfInBounds_toArray, List.set_cons_zero, List.set_cons_succ]
    refine wpAnyH_take (i := 4) (oi := { dst := some 13, op := _, type := _, pos := _, after := _, guard := _ }) (v := ?_) rfl (by kernel_rfl) (by kernel_rfl) (by kernel_rfl) (fun _ _ _ h => h) (Or.inl ⟨by rfl, ?_⟩) (by assumption) ?_
    rotate_left
    · intro w hSw
      try dsimp only at hSw
      go_simp
      try with_reducible rfl
    try simp only [Act.put, List.setIfInBounds_toArray, List.set_cons_zero, List.set_cons_succ]
    refine wpAnyH_take (i := 5) (oi := { dst := some 8, op := _, type := _, pos := _, after := _, guard := _ }) (v := ?_) rfl (by kernel_rfl) (by kernel_rfl) (by kernel_rfl) (fun _ _ _ h => h) (Or.inl ⟨by rfl, ?_⟩) (by assumption) ?_
    rotate_left
    · intro w hSw
      try dsimp only at hSw
      go_simp
      try with_reducible rfl
    try simp only [Act.put, List.setIfInBounds_toArray, List.set_cons_zero, List.set_cons_succ]
    refine wpAnyH_take (i := 6) (oi := { dst := some 14, op := _, type := _, pos := _, after := _, guard := _ }) (v := ?_) rfl (by kernel_rfl) (by kernel_rfl) (by kernel_rfl) (fun _ _ _ h => h) (Or.inl ⟨by rfl, ?_⟩) (by assumption) ?_
    rotate_left
    · intro w hSw
      try dsimp only at hSw
      go_simp
      try with_reducible rfl
    try simp only [Act.put, List.setIfInBounds_toArray, List.set_cons_zero, List.set_cons_succ]
    refine wpAnyH_take (i := 7) (oi := { dst := some 15, op := _, type := _, pos := _, after := _, guard := _ }) (v := ?_) rfl (by kernel_rfl) (by kernel_rfl) (by kernel_rfl) (fun _ _ _ h => h) (Or.inl ⟨by rfl, ?_⟩) (by assumption) ?_
    rotate_left
    · intro w hSw
      try dsimp only at hSw
      go_simp
      try with_reducible rfl
    try simp only [Act.put, List.setIfInBounds_toArray, List.set_cons_zero, List.set_cons_succ]
    refine wpAnyH_ready (rs := [8]) (by kernel_rfl) (by simp) ?_
    refine AllReadyH.cons rfl (fun K hK => ?_) AllReadyH.nil
    go_simp
    refine hK.out _ _ ?_ (fun hHeld => ?_)
    · exact lsees_below HL.out (by assumption) ((Below.refl _ _).alloc (Nat.le_refl _) _)
    clear hK K
    try simp only [Act.put, List.setIfInBounds_toArray, List.set_cons_zero, List.set_cons_succ]
    refine wpAnyH_ready (rs := [9]) (by kernel_rfl) (by simp) ?_
    refine AllReadyH.cons rfl (fun K hK => ?_) AllReadyH.nil
    go_simp
    refine hK.out _ _ ?_ (fun hHeld => ?_)
    · exact lsees_below HL.out (by assumption) ((Below.refl _ w5).alloc (Nat.le_refl _) _)
    clear hK K
    try simp only [Act.put, List.setIfInBounds_toArray, List.set_cons_zero, List.set_cons_succ]
    refine wpAnyH_take (i := 10) (oi := { dst := some 7, op := _, type := _, pos := _, after := _, guard := _ }) (v := ?_) rfl (by kernel_rfl) (by kernel_rfl) (by kernel_rfl) (fun _ _ _ h => h) (Or.inl ⟨by rfl, ?_⟩) (by assumption) ?_
    rotate_left
    · intro w hSw
      try dsimp only at hSw
      go_simp
      try with_reducible rfl
    try simp only [Act.put, List.setIfInBounds_toArray, List.set_cons_zero, List.set_cons_succ]
    refine wpAnyH_done (by kernel_rfl) ?_ _
    have hS5 : (fun W => W.cell? ⟨w.heap.size, 1, none⟩ = some (.map mc) ∧ (Instr.lookup 86 (.map mc) (.string (lowS n)) true).run Tryz.prog W = .ok (.tuple #[.agg #[.string nm, .string su, .slice a1 p1 q1, .slice a2 p2 q2], .bool ok]) W ∧ Hid (Below w.heap.size w W ∧ w.heap.size + 2 ≤ W.heap.size)) w5 := by assumption
    have hB5 := hS5.2.2
    have e0 : w5.cell? ⟨w.heap.size + 1, 0, none⟩ = some (.string ⟨#[]⟩) := cell_later hb (by go_simp)
    have e1 : w5.cell? ⟨w.heap.size + 1, 1, none⟩ = some (.string ⟨#[]⟩) := cell_later hb (by go_simp)
    have e2 : w5.cell? ⟨w.heap.size + 1, 2, none⟩ = some (.slice none 0 0) := cell_later hb (by go_simp)
    have e3 : w5.cell? ⟨w.heap.size + 1, 3, none⟩ = some (.slice none 0 0) := cell_later hb (by go_simp)
    have fe0 := frozen_later (i := 0) hb (b := w.heap.size + 1) (by simp) (by go_simp)
    have fe1 := frozen_later (i := 1) hb (b := w.heap.size + 1) (by simp) (by go_simp)
    have fe2 := frozen_later (i := 2) hb (b := w.heap.size + 1) (by simp) (by go_simp)
    have fe3 := frozen_later (i := 3) hb (b := w.heap.size + 1) (by simp) (by go_simp)
    have hlt : w.heap.size + 1 < w5.heap.size := hB5.out.2
    clear hS5
    go_wp2_with fail
    refine bodyPost_ret (v := .tuple #[.agg #[.string nm, .string su, .slice a1 p1 q1, .slice a2 p2 q2], .bool ok]) (by simp only [results, Tryz.results92]; go_simp) rfl ?_
    obtain ⟨h1, h2, hg, hnm, hsu⟩ := HG.out
    refine ⟨d, a1, p1, q1, a2, p2, q2, h1, h2, hg, by rw [hnm, hsu], ?_⟩
    have hf : w.heap.size ≤ w.heap.size + 1 := Nat.le_succ _
    have hg : w.heap.size ≤ w.heap.size + 1 + 1 := Nat.le_succ_of_le (Nat.le_succ _)
    exact (below_set1 (below_set1 (below_set1 (below_set1 (hB5.out.1) (w.heap.size + 1) 0 hf _) (w.heap.size + 1) 1 hf _) (w.heap.size + 1) 2 hf _) (w.heap.size + 1) 3 hf _).alloc (by simp only [set_size]; omega) _
  · go_simp
    refine hK.out _ _ ?_ (fun hHeld => ?_)
    · exact lsees_below HL.out (by assumption) ((Below.refl _ _).alloc (Nat.le_refl _) _)
    clear hK K
    try simp only [Act.put, List.setIfInBounds_toArray, List.set_cons_zero, List.set_cons_succ]
    refine wpAnyH_ready (rs := [3]) (by kernel_rfl) (by simp) ?_
    refine AllReadyH.cons rfl (fun K hK => ?_) AllReadyH.nil
    go_simp
    refine (lower_s n _ hn).mono ?_
    rintro e w5 ⟨rfl, hb⟩
    have c0 : w5.cell? ⟨w.heap.size + 1 + 1, 0, none⟩ = some (.string ⟨#[]⟩) := cell_later hb (by go_simp)
    have c1 : w5.cell? ⟨w.heap.size + 1 + 1, 1, none⟩ = some (.string ⟨#[]⟩) := cell_later hb (by go_simp)
    have c2 : w5.cell? ⟨w.heap.size + 1 + 1, 2, none⟩ = some (.slice none 0 0) := cell_later hb (by go_simp)
    have c3 : w5.cell? ⟨w.heap.size + 1 + 1, 3, none⟩ = some (.slice none 0 0) := cell_later hb (by go_simp)
    have fc0 := frozen_later (i := 0) hb (b := w.heap.size + 1 + 1) (by simp) (by go_simp)
    have fc1 := frozen_later (i := 1) hb (b := w.heap.size + 1 + 1) (by simp) (by go_simp)
    have fc2 := frozen_later (i := 2) hb (b := w.heap.size + 1 + 1) (by simp) (by go_simp)
    have fc3 := frozen_later (i := 3) hb (b := w.heap.size + 1 + 1) (by simp) (by go_simp)
    go_wp2_with fail
    refine hK.out _ _ ?_ (fun hHeld => ?_)
    · exact lsees_below HL.out (by assumption) hb
    clear hK K
    try simp only [Act.put, List.setIfInBounds_toArray, List.set_cons_zero, List.set_cons_succ]
    refine wpAnyH_take (i := 4) (oi := { dst := some 13, op := _, type := _, pos := _, after := _, guard := _ }) (v := ?_) rfl (by kernel_rfl) (by kernel_rfl) (by kernel_rfl) (fun _ _ _ h => h) (Or.inl ⟨by rfl, ?_⟩) (by assumption) ?_
    rotate_left
    · intro w hSw
      try dsimp only at hSw
      go_simp
      try with_reducible rfl
    try simp only [Act.put, List.setIfInBounds_toArray, List.set_cons_zero, List.set_cons_succ]
    refine wpAnyH_take (i := 5) (oi := { dst := some 8, op := _, type := _, pos := _, after := _, guard := _ }) (v := ?_) rfl (by kernel_rfl) (by kernel_rfl) (by kernel_rfl) (fun _ _ _ h => h) (Or.inl ⟨by rfl, ?_⟩) (by assumption) ?_
    rotate_left
    · intro w hSw
      try dsimp only at hSw
      go_simp
      try with_reducible rfl
    try simp only [Act.put, List.setIfInBounds_toArray, List.set_cons_zero, List.set_cons_succ]
    refine wpAnyH_take (i := 6) (oi := { dst := some 14, op := _, type := _, pos := _, after := _, guard := _ }) (v := ?_) rfl (by kernel_rfl) (by kernel_rfl) (by kernel_rfl) (fun _ _ _ h => h) (Or.inl ⟨by rfl, ?_⟩) (by assumption) ?_
    rotate_left
    · intro w hSw
      try dsimp only at hSw
      go_simp
      try with_reducible rfl
    try simp only [Act.put, List.setIfInBounds_toArray, List.set_cons_zero, List.set_cons_succ]
    refine wpAnyH_take (i := 7) (oi := { dst := some 15, op := _, type := _, pos := _, after := _, guard := _ }) (v := ?_) rfl (by kernel_rfl) (by kernel_rfl) (by kernel_rfl) (fun _ _ _ h => h) (Or.inl ⟨by rfl, ?_⟩) (by assumption) ?_
    rotate_left
    · intro w hSw
      try dsimp only at hSw
      go_simp
      try with_reducible rfl
    try simp only [Act.put, List.setIfInBounds_toArray, List.set_cons_zero, List.set_cons_succ]
    refine wpAnyH_ready (rs := [9]) (by kernel_rfl) (by simp) ?_
    refine AllReadyH.cons rfl (fun K hK => ?_) AllReadyH.nil
    go_simp
    refine hK.out _ _ ?_ (fun hHeld => ?_)
    · exact (lsees_set HL.out (w.heap.size + 1 + 1) 3 _ (Nat.lt_succ_of_le (Nat.le_succ _)) (lsees_set HL.out (w.heap.size + 1 + 1) 2 _ (Nat.lt_succ_of_le (Nat.le_succ _)) (lsees_set HL.out (w.heap.size + 1 + 1) 1 _ (Nat.lt_succ_of_le (Nat.le_succ _)) (lsees_set HL.out (w.heap.size + 1 + 1) 0 _ (Nat.lt_succ_of_le (Nat.le_succ _)) (by assumption)))))
    clear hK K
    try simp only [Act.put, List.setIfInBounds_toArray, List.set_cons_zero, List.set_cons_succ]
    refine wpAnyH_take (i := 10) (oi := { dst := some 7, op := _, type := _, pos := _, after := _, guard := _ }) (v := ?_) rfl (by kernel_rfl) (by kernel_rfl) (by kernel_rfl) (fun _ _ _ h => h) (Or.inl ⟨by rfl, ?_⟩) (by assumption) ?_
    rotate_left
    · intro w hSw
      try dsimp only at hSw
      go_simp
      try with_reducible rfl
    try simp only [Act.put, List.setIfInBounds_toArray, List.set_cons_zero, List.set_cons_succ]
    refine wpAnyH_done (by kernel_rfl) ?_ _
    have hS5 : (fun W => W.cell? ⟨w.heap.size, 1, none⟩ = some (.map mc) ∧ (Instr.lookup 86 (.map mc) (.string (lowS n)) true).run Tryz.prog W = .ok (.tuple #[.agg #[.string nm, .string su, .slice a1 p1 q1, .slice a2 p2 q2], .bool ok]) W ∧ Hid (Below w.heap.size w W ∧ w.heap.size + 2 ≤ W.heap.size)) w5 := by assumption
    have hB5 := hS5.2.2
    have e0 : w5.cell? ⟨w.heap.size + 1, 0, none⟩ = some (.string ⟨#[]⟩) := cell_later hb (by go_simp)
    have e1 : w5.cell? ⟨w.heap.size + 1, 1, none⟩ = some (.string ⟨#[]⟩) := cell_later hb (by go_simp)
    have e2 : w5.cell? ⟨w.heap.size + 1, 2, none⟩ = some (.slice none 0 0) := cell_later hb (by go_simp)
    have e3 : w5.cell? ⟨w.heap.size + 1, 3, none⟩ = some (.slice none 0 0) := cell_later hb (by go_simp)
    have fe0 := frozen_later (i := 0) hb (b := w.heap.size + 1) (by simp) (by go_simp)
    have fe1 := frozen_later (i := 1) hb (b := w.heap.size + 1) (by simp) (by go_simp)
    have fe2 := frozen_later (i := 2) hb (b := w.heap.size + 1) (by simp) (by go_simp)
    have fe3 := frozen_later (i := 3) hb (b := w.heap.size + 1) (by simp) (by go_simp)
    have hlt : w.heap.size + 1 < w5.heap.size := hB5.out.2
    clear hS5
    go_wp2_with fail
    refine bodyPost_ret (v := .tuple #[.agg #[.string nm, .string su, .slice a1 p1 q1, .slice a2 p2 q2], .bool ok]) (by simp only [results, Tryz.results92]; go_simp) rfl ?_
    obtain ⟨h1, h2, hg, hnm, hsu⟩ := HG.out
    refine ⟨d, a1, p1, q1, a2, p2, q2, h1, h2, hg, by rw [hnm, hsu], ?_⟩
    have hf : w.heap.size ≤ w.heap.size + 1 := Nat.le_succ _
    have hg : w.heap.size ≤ w.heap.size + 1 + 1 := Nat.le_succ_of_le (Nat.le_succ _)
    exact below_set1 (below_set1 (below_set1 (below_set1 (below_set1 (below_set1 (below_set1 (below_set1 (hB5.out.1) (w.heap.size + 1 + 1) 0 hg _) (w.heap.size + 1 + 1) 1 hg _) (w.heap.size + 1 + 1) 2 hg _) (w.heap.size + 1 + 1) 3 hg _) (w.heap.size + 1) 0 hf _) (w.heap.size + 1) 1 hf _) (w.heap.size + 1) 2 hf _) (w.heap.size + 1) 3 hf _
end Go.Proofs.YtonfkhkalodldabGreatDoor
end

section
/-
  Contract of the table's typed: whether every name has a type. Condition: names of at most 1000000000 bytes.
-/
set_option maxRecDepth 100000
set_option maxRecDepth 100000
namespace Go.Proofs.YtonfkhkalodldabGreatDoor
open Go.RowKit Go.PlainAid
theorem typedB_take {ts : List Ty} {ns : List ByteArray} {k : Nat} (h : typedB ts (ns.take k) = true) (hk : k < ns.length) (h1 : (tyOf ts (partAt ns k)).isSome = true) : typedB ts (ns.take (k + 1)) = true := by
  unfold typedB at *
  rw [take_snoc ns k hk, List.all_append, h]
  simpa using h1
theorem typedB_false {ts : List Ty} {ns : List ByteArray} {k : Nat} (hk : k < ns.length) (h1 : (tyOf ts (partAt ns k)).isSome = false) : typedB ts ns = false := by
  unfold typedB
  cases e : ns.all (fun n => (tyOf ts n).isSome)
  · rfl
  · have := (List.all_eq_true.1 e) _ (part_mem ns k hk)
    rw [h1] at this; cases this
set_option maxHeartbeats 4000000 in
theorem typed_s (mt mc : Option Nat) (ts : List Ty) (ao : Option Addr) (n cap : Nat) (ns : List ByteArray) (w : World) (h : TMap w mt ts) (hs : StrsAt w ao n cap ns) (hz : ∀ s ∈ ns, s.size ≤ 1000000000) :
    Calls Tryz.prog 135 #[.agg #[.map mt, .map mc], .slice ao n cap] w fun e w' => e = .returned (.bool (typedB ts ns)) ∧ Below w.heap.size w w' := by
  obtain ⟨h1, h2, h3, h4⟩ := hs
  subst h1
  unfold maxLen at h3
  have H4 := Lib.hid h4; clear h4
  have HZ := Lib.hid hz; clear hz
  have HT := Lib.hid h; clear h
  have HB0 : Hid (Below w.heap.size w (w.alloc (.cells #[.map mt, .map mc] 88))) := Lib.hid ((Below.refl _ _).alloc (Nat.le_refl _) _)
  have c0 : (w.alloc (.cells #[.map mt, .map mc] 88)).cell? ⟨w.heap.size, 0, none⟩ = some (.map mt) := by go_simp
  have c1 : (w.alloc (.cells #[.map mt, .map mc] 88)).cell? ⟨w.heap.size, 1, none⟩ = some (.map mc) := by go_simp
  have HC0 := Lib.hid (And.intro c0 c1)
  clear c0 c1
  go_enter Tryz.func135, Tryz.ntmps135
  go_wp2
  go_loopw [6, 7, 8, 11] (fun s6 s7 s8 i wr => ∃ k : Nat, k ≤ ns.length ∧ i = .int .i64 k ∧ Hid (typedB ts (ns.take k) = true) ∧ Hid (wr.cell? ⟨w.heap.size, 0, none⟩ = some (.map mt) ∧ wr.cell? ⟨w.heap.size, 1, none⟩ = some (.map mc)) ∧ Hid (Below w.heap.size w wr ∧ w.heap.size < wr.heap.size)) (fun _ _ _ i _ => ns.length - (intOf i).toNat)
  case atStart => exact ⟨0, Nat.zero_le _, rfl, Lib.hid rfl, HC0, Lib.hid ⟨HB0.out, by simp⟩⟩
  case round =>
    obtain ⟨k, hk, rfl, HA, HC, HB⟩ := hrel
    by_cases hlt : k < ns.length
    · obtain ⟨b, off, rfl, hs⟩ := H4.out (by omega)
      have hcell := (hs.below HB.out.1 hs.1).2 k hlt
      clear hs
      obtain ⟨p, hp⟩ : ∃ x, partAt ns k = x := ⟨_, rfl⟩
      have hps : p.size ≤ 1000000000 := by rw [← hp]; exact HZ.out _ (part_mem ns k hlt)
      obtain ⟨u, hu⟩ : ∃ u, (tyOf ts p).getD zeroTy = u := ⟨_, rfl⟩
      have HCall := Lib.hid (fun W hW => typeOf_s mt mc ts p W (HT.out.below hW) hps)
      unfold tyV at HCall
      rw [hu] at HCall
      have c0 := HC.out.1
      have c1 := HC.out.2
      have d1 : (k : Int) < (ns.length : Int) := by omega
      rw [hp] at hcell
      cases ht : (tyOf ts p).isSome
      · have HE := Lib.hid (show typedB ts ns = false from typedB_false hlt (by rw [hp]; exact ht))
        rw [ht] at HCall
        clear ht hu hp
        go_wp2_with fail
        refine (HCall.out _ HB.out.1).mono ?_
        rintro e w1 ⟨rfl, hb⟩
        have HB1 := Lib.hid (HB.out.1.trans (hb.mono (Nat.le_of_lt HB.out.2)))
        have hs1 : w.heap.size < w1.heap.size := Nat.lt_of_lt_of_le HB.out.2 hb.size
        clear hb
        go_wp2_with fail
        go_ret
        exact ⟨by rw [HE.out]; rfl, HB1.out.alloc (by omega) _⟩
      · have HA2 := Lib.hid (typedB_take HA.out hlt (by rw [hp]; exact ht))
        rw [ht] at HCall
        clear ht hu hp
        go_wp2_with fail
        refine (HCall.out _ HB.out.1).mono ?_
        rintro e w1 ⟨rfl, hb⟩
        have HB1 := Lib.hid (HB.out.1.trans (hb.mono (Nat.le_of_lt HB.out.2)))
        have hs1 : w.heap.size < w1.heap.size := Nat.lt_of_lt_of_le HB.out.2 hb.size
        have HC1 := Lib.hid (And.intro (cell_later hb c0) (cell_later hb c1))
        clear hb
        go_wp2_with fail
        go_roundw
        case rel =>
          have hal : ∀ o, Below w1.heap.size w1 (w1.alloc o) := fun o => (Below.refl _ _).alloc (Nat.le_refl _) o
          exact ⟨k + 1, by omega, by go_num, HA2, Lib.hid ⟨cell_later (hal _) HC1.out.1, cell_later (hal _) HC1.out.2⟩, Lib.hid ⟨HB1.out.trans ((hal _).mono (by omega)), by simp; omega⟩⟩
        case measure => simp [intOf]; omega
    · have hk2 : k = ns.length := by omega
      have HE := Lib.hid (show typedB ts ns = true by have := HA.out; rw [hk2, List.take_length] at this; exact this)
      have HB1 := Lib.hid HB.out.1
      have d1 : ¬ (k : Int) < (ns.length : Int) := by omega
      go_wp2_with fail
      go_ret
      exact ⟨by rw [HE.out]; rfl, HB1.out⟩
end Go.Proofs.YtonfkhkalodldabGreatDoor
end
