/-
  Texts of the schema layer and of those beneath it, joined: KeyE, KeyF. Conditions stand at each contract.
-/
import Derived.WalkMore
import Derived.StillTailTactics
import Derived.Test.YtgepcbggkfjlgaaGreatDoorM01
import Derived.Test.YtgepcbggkfjlgaaGreatDoorM05
import Derived.Test.YtgepcbggkfjlgaaGreatDoorM07
import Derived.Test.YtgepcbggkfjlgaaGreatDoorM09

section
/-
  Contracts of keys' compare, Prune and Signing. Condition: strings of at most 1000000000 bytes, at most 1000 keys.
-/
set_option maxRecDepth 100000
set_option linter.unusedVariables false
set_option linter.unusedSimpArgs false
set_option linter.unnecessarySimpa false
namespace Go.Proofs.YtgepcbggkfjlgaaGreatDoor
open Go.RowKit Go.PlainAid

def orI (x y : Int) : Int := if x = 0 then y else x
set_option maxHeartbeats 2000000 in
theorem or_k (b : Nat) (x y r : Int) (w : World) (h : KbC w b (.cells #[.int .i64 x, .int .i64 y] 3)) (hr : orI x y = r) :
    Calls Tryz.prog 62 #[.slice (some ⟨b, 0, none⟩) 2 2] w fun e w' => e = .returned (.int .i64 r) ∧ w = w' := by
  have c0 : w.cell? ⟨b, 0, none⟩ = some (.int .i64 x) := h.cell rfl
  have c1 : w.cell? ⟨b, 1, none⟩ = some (.int .i64 y) := h.cell rfl
  clear h
  by_cases hx : x = 0
  · have HE := Lib.hid (show r = y from by rw [← hr]; exact if_pos hx)
    have q0 : (x != 0) = false := by rw [hx]; rfl
    clear hx hr
    by_cases hy : y = 0
    · subst hy
      go_enter Tryz.func62, Tryz.ntmps62
      go_wp2
      refine wp_loop_rounds 3 ?_
      rw [rounds_succ]
      go_wp2
      rw [rounds_succ]
      go_wp2
      rw [rounds_succ]
      go_wp2
      go_ret
      exact ⟨by rw [HE.out]; rfl, rfl⟩
    · have q1 : (y != 0) = true := by simpa using hy
      clear hy
      go_enter Tryz.func62, Tryz.ntmps62
      go_wp2
      refine wp_loop_rounds 3 ?_
      rw [rounds_succ]
      go_wp2
      rw [rounds_succ]
      go_wp2
      go_ret
      exact ⟨by rw [HE.out]; rfl, rfl⟩
  · have HE := Lib.hid (show r = x from by rw [← hr]; exact if_neg hx)
    have q0 : (x != 0) = true := by simpa using hx
    clear hx hr
    go_enter Tryz.func62, Tryz.ntmps62
    go_wp2
    refine wp_loop_rounds 3 ?_
    rw [rounds_succ]
    go_wp2
    go_ret
    exact ⟨by rw [HE.out]; rfl, rfl⟩
def cmpK (a b : Ky) : Int := orI (Lib.compareInt a.sf b.sf) (Lib.compareBytes a.id.data.toList b.id.data.toList)
theorem cmpK_gt (a b : Ky) : 0 < cmpK a b ↔ gtK a b := by
  have := cb_range a.id.data.toList b.id.data.toList
  unfold cmpK gtK orI Lib.compareInt
  split <;> (split at * <;> (try split at *) <;> omega)
theorem cmpInt_k (x y r : Int) (w : World) (h : Lib.compareInt x y = r) : Calls Tryz.prog 63 #[.int .i64 x, .int .i64 y] w fun e w' => e = .returned (.int .i64 r) ∧ w' = w := by
  subst h; exact Tryz.cmp_Compare_int x y w
theorem cmpStr_k (a b : ByteArray) (r : Int) (w : World) (h : Lib.compareBytes a.data.toList b.data.toList = r) : Calls Tryz.prog 64 #[.string a, .string b] w fun e w' => e = .returned (.int .i64 r) ∧ w' = w := by
  subst h; exact Tryz.strings_Compare a b w
set_option maxHeartbeats 4000000 in
theorem compare_k (a b : Ky) (r : Int) (w : World) (hr : cmpK a b = r) :
    Calls Tryz.prog 39 #[kV a, kV b] w fun e w' => e = .returned (.int .i64 r) ∧ Below w.heap.size w w' := by
  obtain ⟨i, s, sf, su, af, au⟩ := a
  obtain ⟨i', s', sf', su', af', au'⟩ := b
  unfold cmpK at hr
  dsimp only at hr
  obtain ⟨x, hx⟩ : ∃ x, Lib.compareInt sf sf' = x := ⟨_, rfl⟩
  obtain ⟨y, hy⟩ : ∃ y, Lib.compareBytes i.data.toList i'.data.toList = y := ⟨_, rfl⟩
  rw [hx, hy] at hr
  have HX := Lib.hid hx
  have HY := Lib.hid hy
  have HR := Lib.hid hr
  clear hx hy hr
  obtain ⟨W2, hW2⟩ : ∃ W2, (w.alloc (kB ⟨i, s, sf, su, af, au⟩)).alloc (kB ⟨i', s', sf', su', af', au'⟩) = W2 := ⟨_, rfl⟩
  have HB := Lib.hid (show Below w.heap.size w W2 from by rw [← hW2]; exact (box_below w (kB ⟨i, s, sf, su, af, au⟩)).trans ((box_below _ _).mono (box_below w (kB ⟨i, s, sf, su, af, au⟩)).size))
  have HK1 := Lib.hid (show KbC W2 w.heap.size (kB ⟨i, s, sf, su, af, au⟩) from by rw [← hW2]; exact (kbc_new w _).step (box_below _ _))
  have HK2 := Lib.hid (show KbC W2 (w.heap.size + 1) (kB ⟨i', s', sf', su', af', au'⟩) from by
    rw [← hW2]
    have := kbc_new (w.alloc (kB ⟨i, s, sf, su, af, au⟩)) (kB ⟨i', s', sf', su', af', au'⟩)
    rw [World.size_alloc] at this
    exact this)
  have HSt : Hid (∀ V, Below W2.heap.size W2 V → V.cell? ⟨w.heap.size, 0, none⟩ = some (.string i) ∧ V.cell? ⟨w.heap.size, 2, none⟩ = some (.int .i64 sf) ∧ V.cell? ⟨w.heap.size + 1, 0, none⟩ = some (.string i') ∧ V.cell? ⟨w.heap.size + 1, 2, none⟩ = some (.int .i64 sf') ∧ Hid (Below W2.heap.size W2 V)) := Lib.hid fun V hV => ⟨(HK1.out.step hV).cell rfl, (HK1.out.step hV).cell rfl, (HK2.out.step hV).cell rfl, (HK2.out.step hV).cell rfl, Lib.hid hV⟩
  have HD := Lib.hid (Below.refl W2.heap.size W2).drew
  have S0 := HSt.out _ HD.out
  dsimp only [kV, kcells]
  dsimp only [kB, kcells] at hW2
  go_enter Tryz.func39, Tryz.ntmps39
  go_wp2_with fail
  clear hW2
  refine wp_region_held_drew (S := fun V => V.cell? ⟨w.heap.size, 0, none⟩ = some (.string i) ∧ V.cell? ⟨w.heap.size, 2, none⟩ = some (.int .i64 sf) ∧ V.cell? ⟨w.heap.size + 1, 0, none⟩ = some (.string i') ∧ V.cell? ⟨w.heap.size + 1, 2, none⟩ = some (.int .i64 sf') ∧ Hid (Below W2.heap.size W2 V)) (by kernel_rfl) (S0) (fun hS => ?_)
  refine wpAnyH_take (i := 0) (oi := { dst := some 5, op := _, type := _, pos := _, after := _, guard := _ }) (v := ?_) rfl (by kernel_rfl) (by kernel_rfl) (by kernel_rfl) (fun _ _ _ h => h) (Or.inl ⟨by rfl, ?_⟩) (by assumption) ?_
  rotate_left
  · intro w hSw
    try dsimp only at hSw
    go_simp
    try with_reducible rfl
  try simp only [Act.put, List.setIfInBounds_toArray, List.set_cons_zero, List.set_cons_succ]
  refine wpAnyH_take (i := 1) (oi := { dst := some 6, op := _, type := _, pos := _, after := _, guard := _ }) (v := ?_) rfl (by kernel_rfl) (by kernel_rfl) (by kernel_rfl) (fun _ _ _ h => h) (Or.inl ⟨by rfl, ?_⟩) (by assumption) ?_
  rotate_left
  · intro w hSw
    try dsimp only at hSw
    go_simp
    try with_reducible rfl
  try simp only [Act.put, List.setIfInBounds_toArray, List.set_cons_zero, List.set_cons_succ]
  refine wpAnyH_take (i := 2) (oi := { dst := some 7, op := _, type := _, pos := _, after := _, guard := _ }) (v := ?_) rfl (by kernel_rfl) (by kernel_rfl) (by kernel_rfl) (fun _ _ _ h => h) (Or.inl ⟨by rfl, ?_⟩) (by assumption) ?_
  rotate_left
  · intro w hSw
    try dsimp only at hSw
    go_simp
    try with_reducible rfl
  try simp only [Act.put, List.setIfInBounds_toArray, List.set_cons_zero, List.set_cons_succ]
  refine wpAnyH_take (i := 3) (oi := { dst := some 8, op := _, type := _, pos := _, after := _, guard := _ }) (v := ?_) rfl (by kernel_rfl) (by kernel_rfl) (by kernel_rfl) (fun _ _ _ h => h) (Or.inl ⟨by rfl, ?_⟩) (by assumption) ?_
  rotate_left
  · intro w hSw
    try dsimp only at hSw
    go_simp
    try with_reducible rfl
  try simp only [Act.put, List.setIfInBounds_toArray, List.set_cons_zero, List.set_cons_succ]
  refine wpAnyH_take (i := 4) (oi := { dst := some 9, op := _, type := _, pos := _, after := _, guard := _ }) (v := ?_) rfl (by kernel_rfl) (by kernel_rfl) (by kernel_rfl) (fun _ _ _ h => h) (Or.inl ⟨by rfl, ?_⟩) (by assumption) ?_
  rotate_left
  · intro w hSw
    try dsimp only at hSw
    go_simp
    try with_reducible rfl
  try simp only [Act.put, List.setIfInBounds_toArray, List.set_cons_zero, List.set_cons_succ]
  refine wpAnyH_take (i := 5) (oi := { dst := some 10, op := _, type := _, pos := _, after := _, guard := _ }) (v := ?_) rfl (by kernel_rfl) (by kernel_rfl) (by kernel_rfl) (fun _ _ _ h => h) (Or.inl ⟨by rfl, ?_⟩) (by assumption) ?_
  rotate_left
  · intro w hSw
    try dsimp only at hSw
    go_simp
    try with_reducible rfl
  try simp only [Act.put, List.setIfInBounds_toArray, List.set_cons_zero, List.set_cons_succ]
  refine wpAnyH_take (i := 7) (oi := { dst := some 12, op := _, type := _, pos := _, after := _, guard := _ }) (v := ?_) rfl (by kernel_rfl) (by kernel_rfl) (by kernel_rfl) (fun _ _ _ h => h) (Or.inl ⟨by rfl, ?_⟩) (by assumption) ?_
  rotate_left
  · intro w hSw
    try dsimp only at hSw
    go_simp
    try with_reducible rfl
  try simp only [Act.put, List.setIfInBounds_toArray, List.set_cons_zero, List.set_cons_succ]
  refine wpAnyH_take (i := 8) (oi := { dst := some 13, op := _, type := _, pos := _, after := _, guard := _ }) (v := ?_) rfl (by kernel_rfl) (by kernel_rfl) (by kernel_rfl) (fun _ _ _ h => h) (Or.inl ⟨by rfl, ?_⟩) (by assumption) ?_
  rotate_left
  · intro w hSw
    try dsimp only at hSw
    go_simp
    try with_reducible rfl
  try simp only [Act.put, List.setIfInBounds_toArray, List.set_cons_zero, List.set_cons_succ]
  refine wpAnyH_take (i := 9) (oi := { dst := some 14, op := _, type := _, pos := _, after := _, guard := _ }) (v := ?_) rfl (by kernel_rfl) (by kernel_rfl) (by kernel_rfl) (fun _ _ _ h => h) (Or.inl ⟨by rfl, ?_⟩) (by assumption) ?_
  rotate_left
  · intro w hSw
    try dsimp only at hSw
    go_simp
    try with_reducible rfl
  try simp only [Act.put, List.setIfInBounds_toArray, List.set_cons_zero, List.set_cons_succ]
  refine wpAnyH_take (i := 10) (oi := { dst := some 15, op := _, type := _, pos := _, after := _, guard := _ }) (v := ?_) rfl (by kernel_rfl) (by kernel_rfl) (by kernel_rfl) (fun _ _ _ h => h) (Or.inl ⟨by rfl, ?_⟩) (by assumption) ?_
  rotate_left
  · intro w hSw
    try dsimp only at hSw
    go_simp
    try with_reducible rfl
  try simp only [Act.put, List.setIfInBounds_toArray, List.set_cons_zero, List.set_cons_succ]
  refine wpAnyH_ready (rs := [6]) (by kernel_rfl) (by simp) ?_
  refine AllReadyH.cons rfl (fun K hK => ?_) AllReadyH.nil
  go_simp
  refine (cmpInt_k sf sf' x _ HX.out).mono ?_
  rintro e w' ⟨rfl, rfl⟩
  go_wp2_with fail
  refine hK.out _ _ ?_ (fun hHeld => ?_)
  · exact HSt.out _ HD.out
  clear hK K
  try simp only [Act.put, List.setIfInBounds_toArray, List.set_cons_zero, List.set_cons_succ]
  refine wpAnyH_ready (rs := [11]) (by kernel_rfl) (by simp) ?_
  refine AllReadyH.cons rfl (fun K hK => ?_) AllReadyH.nil
  go_simp
  refine (cmpStr_k i i' y _ HY.out).mono ?_
  rintro e w' ⟨rfl, rfl⟩
  go_wp2_with fail
  refine hK.out _ _ ?_ (fun hHeld => ?_)
  · exact HSt.out _ HD.out
  clear hK K
  try simp only [Act.put, List.setIfInBounds_toArray, List.set_cons_zero, List.set_cons_succ]
  refine wpAnyH_ready (rs := [12]) (by kernel_rfl) (by simp) ?_
  refine AllReadyH.cons rfl (fun K hK => ?_) AllReadyH.nil
  go_simp
  refine hK.out _ _ ?_ (fun hHeld => ?_)
  · exact HSt.out _ (box_below W2 _).drew
  clear hK K
  have HD := Lib.hid (show Below W2.heap.size W2 (W2.alloc (.cells #[.int .i64 x, .int .i64 y] 3)).drew from (box_below W2 _).drew)
  have HK := Lib.hid (show KbC (W2.alloc (.cells #[.int .i64 x, .int .i64 y] 3)).drew W2.heap.size (.cells #[.int .i64 x, .int .i64 y] 3) from kbc_new W2 _)
  try simp only [Act.put, List.setIfInBounds_toArray, List.set_cons_zero, List.set_cons_succ]
  refine wpAnyH_ready (rs := [13]) (by kernel_rfl) (by simp) ?_
  refine AllReadyH.cons rfl (fun K hK => ?_) AllReadyH.nil
  go_simp
  refine (or_k W2.heap.size x y r _ HK.out HR.out).mono ?_
  rintro e w' ⟨rfl, rfl⟩
  go_wp2_with fail
  refine hK.out _ _ ?_ (fun hHeld => ?_)
  · exact HSt.out _ HD.out
  clear hK K
  try simp only [Act.put, List.setIfInBounds_toArray, List.set_cons_zero, List.set_cons_succ]
  refine wpAnyH_take (i := 14) (oi := { dst := some 4, op := _, type := _, pos := _, after := _, guard := _ }) (v := ?_) rfl (by kernel_rfl) (by kernel_rfl) (by kernel_rfl) (fun _ _ _ h => h) (Or.inl ⟨by rfl, ?_⟩) (by assumption) ?_
  rotate_left
  · intro w hSw
    try dsimp only at hSw
    go_simp
    try with_reducible rfl
  try simp only [Act.put, List.setIfInBounds_toArray, List.set_cons_zero, List.set_cons_succ]
  refine wpAnyH_done (by kernel_rfl) ?_ _
  go_wp2_with fail
  go_ret
  exact ⟨rfl, HB.out.trans (HD.out.mono HB.out.size)⟩
/-! ### Prune -/
theorem add_k (t d x : Int) (w : World) (hx : addI t d = x) : Calls Tryz.prog 23 #[.int .i64 t, .int .i64 d] w fun e w' => e = .returned (.int .i64 x) ∧ w = w' := by
  subst hx; exact add_s t d w
theorem radd_k (t d x : Int) (w : World) (hx : addI t d = x) : Calls Tryz.prog 46 #[.int .i64 t, .int .i64 d] w fun e w' => e = .returned (.int .i64 x) ∧ w = w' := by
  subst hx; exact radd_s t d w
set_option maxHeartbeats 2000000 in
theorem prune_k (ao : Option Addr) (n cap : Nat) (l L : List Ky) (t : Int) (w : World) (h : KsAt w ao n cap l) (hn : n ≤ 1000) (hL : pruK l t = L) :
    Calls Tryz.prog 24 #[.slice ao n cap, .int .i64 t] w fun e w' => ∃ bo dap, e = .returned (.slice bo L.length dap) ∧ KsAt w' bo L.length dap L ∧ Below w.heap.size w w' := by
  obtain ⟨x, hx⟩ : ∃ x, addI t 0 = x := ⟨_, rfl⟩
  unfold pruK at hL
  rw [hx] at hL
  have HX := Lib.hid hx
  have HL := Lib.hid hL
  have HB := Lib.hid (box_below w (intB x))
  have HK := Lib.hid (kbc_new w (intB x))
  have H := Lib.hid (h.below HB.out)
  unfold intB at HB HK H
  clear hx hL h
  go_enter Tryz.func24, Tryz.ntmps24
  go_wp2_with fail
  refine (add_k t 0 x _ HX.out).mono ?_
  rintro e w' ⟨rfl, rfl⟩
  go_wp2_with fail
  refine (selP_k ao n cap l L w.heap.size x _ H.out HK.out hn HL.out).mono ?_
  rintro e w1 ⟨bo, dap, rfl, hat, hb, _⟩
  have HA := Lib.hid hat
  have HB := Lib.hid (HB.out.trans (hb.mono HB.out.size))
  clear hat hb
  go_wp2_with fail
  go_ret
  exact ⟨bo, dap, rfl, HA.out, HB.out⟩
set_option maxHeartbeats 8000000 in
theorem rprune_k (ao : Option Addr) (n cap : Nat) (l L : List Ky) (t : Int) (w : World) (h : KsAt w ao n cap l) (hn : n ≤ 1000) (hL : pruK l t = L) :
    Calls Tryz.prog 25 #[.slice ao n cap, .int .i64 t] w fun e w' => ∃ bo dap, e = .returned (.slice bo L.length dap) ∧ KsAt w' bo L.length dap L ∧ Below w.heap.size w w' := by
  obtain ⟨x, hx⟩ : ∃ x, addI t 0 = x := ⟨_, rfl⟩
  unfold pruK at hL
  rw [hx] at hL
  have HX := Lib.hid hx
  have HL := Lib.hid hL
  have H := Lib.hid h
  obtain ⟨h1, h2, h3, _, _⟩ := h
  subst h1
  unfold maxLen at h3
  clear hx hL
  go_enter Tryz.func25, Tryz.ntmps25
  go_wp2_with fail
  go_loopw [5, 6] (fun v iv wr => ∃ (k : Nat) (C : List Ky), k ≤ l.length ∧ iv = .int .i64 k ∧ Hid ((l.take k).filter (fun k => decide (x < k.au)) = C) ∧ Hid (wr.ownsRow w.heap.size 31 6 v C.length (kcs C)) ∧ Hid (Below w.heap.size w wr)) (fun _ iv _ => l.length - (intOf iv).toNat)
  case atStart => exact ⟨0, [], Nat.zero_le _, rfl, Lib.hid rfl, Lib.hid (World.ownsRow_nil _ _ _ _), Lib.hid (Below.refl _ _)⟩
  case round =>
    rename_i v
    obtain ⟨k, C, hk, rfl, HC, HW, HB⟩ := hrel
    by_cases hlt : k < l.length
    · obtain ⟨b, off, rfl, hsl⟩ := H.out.2.2.2.1 (by omega)
      have HSl := Lib.hid hsl
      obtain ⟨g, hg⟩ : ∃ g, kA l k = g := ⟨_, rfl⟩
      have HCg : Hid (∀ V, Below w.heap.size w V → AtK V b (off + k * 6) g) := Lib.hid fun V hV => by rw [← hg]; exact (HSl.out.below hV HSl.out.1).at_ hlt
      have hft := fil_take (p := fun k => decide (x < k.au)) hlt hg
      rw [HC.out] at hft
      have hcl : C.length ≤ 1000 := by rw [← HC.out]; exact kcs_len2 l _ k hn
      have HB1 := Lib.hid (HB.out.trans ((Below.refl _ _).drew.mono HB.out.size))
      have HW1 := Lib.hid (own_below HW.out (Below.refl _ _).drew)
      have HSt : Hid (∀ V, Below w.heap.size w V → V.cell? ⟨b, off + k * 6 + 5, none⟩ = some (.int .i64 g.au) ∧ Hid (Below w.heap.size w V)) := Lib.hid fun V hV => ⟨(HCg.out V hV).c5, Lib.hid hV⟩
      have S0 := HSt.out _ HB1.out
      clear hsl hg
      cases q : decide (x < g.au)
      · have HC1 := Lib.hid (show (l.take (k + 1)).filter (fun k => decide (x < k.au)) = C by rw [hft]; rw [if_neg (by rw [q]; decide), List.append_nil])
        clear hft
        go_wp2_with fail
        refine wp_region_held_drew (S := fun V => V.cell? ⟨b, off + k * 6 + 5, none⟩ = some (.int .i64 g.au) ∧ Hid (Below w.heap.size w V)) (by kernel_rfl) (S0) (fun hS => ?_)
        refine wpAnyH_take (i := 0) (oi := { dst := some 13, op := _, type := _, pos := _, after := _, guard := _ }) (v := ?_) rfl (by kernel_rfl) (by kernel_rfl) (by kernel_rfl) (fun _ _ _ h => h) (Or.inl ⟨by rfl, ?_⟩) (by assumption) ?_
        rotate_left
        · intro w hSw
          try dsimp only at hSw
          go_simp
          try with_reducible rfl
        try simp only [Act.put, List.setIfInBounds_toArray, List.set_cons_zero, List.set_cons_succ]
        refine wpAnyH_take (i := 1) (oi := { dst := some 14, op := _, type := _, pos := _, after := _, guard := _ }) (v := ?_) rfl (by kernel_rfl) (by kernel_rfl) (by kernel_rfl) (fun _ _ _ h => h) (Or.inl ⟨by rfl, ?_⟩) (by assumption) ?_
        rotate_left
        · intro w hSw
          try dsimp only at hSw
          go_simp
          try with_reducible rfl
        try simp only [Act.put, List.setIfInBounds_toArray, List.set_cons_zero, List.set_cons_succ]
        refine wpAnyH_take (i := 2) (oi := { dst := some 15, op := _, type := _, pos := _, after := _, guard := _ }) (v := ?_) rfl (by kernel_rfl) (by kernel_rfl) (by kernel_rfl) (fun _ _ _ h => h) (Or.inl ⟨by rfl, ?_⟩) (by assumption) ?_
        rotate_left
        · intro w hSw
          try dsimp only at hSw
          go_simp
          try with_reducible rfl
        try simp only [Act.put, List.setIfInBounds_toArray, List.set_cons_zero, List.set_cons_succ]
        refine wpAnyH_take (i := 3) (oi := { dst := some 16, op := _, type := _, pos := _, after := _, guard := _ }) (v := ?_) rfl (by kernel_rfl) (by kernel_rfl) (by kernel_rfl) (fun _ _ _ h => h) (Or.inl ⟨by rfl, ?_⟩) (by assumption) ?_
        rotate_left
        · intro w hSw
          try dsimp only at hSw
          go_simp
          try with_reducible rfl
        try simp only [Act.put, List.setIfInBounds_toArray, List.set_cons_zero, List.set_cons_succ]
        refine wpAnyH_take (i := 4) (oi := { dst := some 17, op := _, type := _, pos := _, after := _, guard := _ }) (v := ?_) rfl (by kernel_rfl) (by kernel_rfl) (by kernel_rfl) (fun _ _ _ h => h) (Or.inl ⟨by rfl, ?_⟩) (by assumption) ?_
        rotate_left
        · intro w hSw
          try dsimp only at hSw
          go_simp
          try with_reducible rfl
        try simp only [Act.put, List.setIfInBounds_toArray, List.set_cons_zero, List.set_cons_succ]
        refine wpAnyH_take (i := 5) (oi := { dst := some 18, op := _, type := _, pos := _, after := _, guard := _ }) (v := ?_) rfl (by kernel_rfl) (by kernel_rfl) (by kernel_rfl) (fun _ _ _ h => h) (Or.inl ⟨by rfl, ?_⟩) (by assumption) ?_
        rotate_left
        · intro w hSw
          try dsimp only at hSw
          go_simp
          try with_reducible rfl
        try simp only [Act.put, List.setIfInBounds_toArray, List.set_cons_zero, List.set_cons_succ]
        refine wpAnyH_take (i := 6) (oi := { dst := some 19, op := _, type := _, pos := _, after := _, guard := _ }) (v := ?_) rfl (by kernel_rfl) (by kernel_rfl) (by kernel_rfl) (fun _ _ _ h => h) (Or.inl ⟨by rfl, ?_⟩) (by assumption) ?_
        rotate_left
        · intro w hSw
          try dsimp only at hSw
          go_simp
          try with_reducible rfl
        try simp only [Act.put, List.setIfInBounds_toArray, List.set_cons_zero, List.set_cons_succ]
        refine wpAnyH_ready (rs := [7]) (by kernel_rfl) (by simp) ?_
        refine AllReadyH.cons rfl (fun K hK => ?_) AllReadyH.nil
        go_simp
        refine (radd_k t 0 x _ HX.out).mono ?_
        rintro e w' ⟨rfl, rfl⟩
        go_wp2_with fail
        refine hK.out _ _ ?_ (fun hHeld => ?_)
        · exact HSt.out _ HB1.out
        clear hK K
        try simp only [Act.put, List.setIfInBounds_toArray, List.set_cons_zero, List.set_cons_succ]
        refine wpAnyH_take (i := 8) (oi := { dst := some 21, op := _, type := _, pos := _, after := _, guard := _ }) (v := ?_) rfl (by kernel_rfl) (by kernel_rfl) (by kernel_rfl) (fun _ _ _ h => h) (Or.inl ⟨by rfl, ?_⟩) (by assumption) ?_
        rotate_left
        · intro w hSw
          try dsimp only at hSw
          go_simp
          try with_reducible rfl
        try simp only [Act.put, List.setIfInBounds_toArray, List.set_cons_zero, List.set_cons_succ]
        refine wpAnyH_done (by kernel_rfl) ?_ _
        go_wp2_with fail
        go_roundw
        case rel => exact ⟨k + 1, C, by omega, by go_num, HC1, HW1, HB1⟩
        case measure => simp [intOf]; omega
      · have HC1 := Lib.hid (show (l.take (k + 1)).filter (fun k => decide (x < k.au)) = C ++ [g] by rw [hft]; rw [if_pos q])
        clear hft
        go_wp2_with fail
        refine wp_region_held_drew (S := fun V => V.cell? ⟨b, off + k * 6 + 5, none⟩ = some (.int .i64 g.au) ∧ Hid (Below w.heap.size w V)) (by kernel_rfl) (S0) (fun hS => ?_)
        refine wpAnyH_take (i := 0) (oi := { dst := some 13, op := _, type := _, pos := _, after := _, guard := _ }) (v := ?_) rfl (by kernel_rfl) (by kernel_rfl) (by kernel_rfl) (fun _ _ _ h => h) (Or.inl ⟨by rfl, ?_⟩) (by assumption) ?_
        rotate_left
        · intro w hSw
          try dsimp only at hSw
          go_simp
          try with_reducible rfl
        try simp only [Act.put, List.setIfInBounds_toArray, List.set_cons_zero, List.set_cons_succ]
        refine wpAnyH_take (i := 1) (oi := { dst := some 14, op := _, type := _, pos := _, after := _, guard := _ }) (v := ?_) rfl (by kernel_rfl) (by kernel_rfl) (by kernel_rfl) (fun _ _ _ h => h) (Or.inl ⟨by rfl, ?_⟩) (by assumption) ?_
        rotate_left
        · intro w hSw
          try dsimp only at hSw
          go_simp
          try with_reducible rfl
        try simp only [Act.put, List.setIfInBounds_toArray, List.set_cons_zero, List.set_cons_succ]
        refine wpAnyH_take (i := 2) (oi := { dst := some 15, op := _, type := _, pos := _, after := _, guard := _ }) (v := ?_) rfl (by kernel_rfl) (by kernel_rfl) (by kernel_rfl) (fun _ _ _ h => h) (Or.inl ⟨by rfl, ?_⟩) (by assumption) ?_
        rotate_left
        · intro w hSw
          try dsimp only at hSw
          go_simp
          try with_reducible rfl
        try simp only [Act.put, List.setIfInBounds_toArray, List.set_cons_zero, List.set_cons_succ]
        refine wpAnyH_take (i := 3) (oi := { dst := some 16, op := _, type := _, pos := _, after := _, guard := _ }) (v := ?_) rfl (by kernel_rfl) (by kernel_rfl) (by kernel_rfl) (fun _ _ _ h => h) (Or.inl ⟨by rfl, ?_⟩) (by assumption) ?_
        rotate_left
        · intro w hSw
          try dsimp only at hSw
          go_simp
          try with_reducible rfl
        try simp only [Act.put, List.setIfInBounds_toArray, List.set_cons_zero, List.set_cons_succ]
        refine wpAnyH_take (i := 4) (oi := { dst := some 17, op := _, type := _, pos := _, after := _, guard := _ }) (v := ?_) rfl (by kernel_rfl) (by kernel_rfl) (by kernel_rfl) (fun _ _ _ h => h) (Or.inl ⟨by rfl, ?_⟩) (by assumption) ?_
        rotate_left
        · intro w hSw
          try dsimp only at hSw
          go_simp
          try with_reducible rfl
        try simp only [Act.put, List.setIfInBounds_toArray, List.set_cons_zero, List.set_cons_succ]
        refine wpAnyH_take (i := 5) (oi := { dst := some 18, op := _, type := _, pos := _, after := _, guard := _ }) (v := ?_) rfl (by kernel_rfl) (by kernel_rfl) (by kernel_rfl) (fun _ _ _ h => h) (Or.inl ⟨by rfl, ?_⟩) (by assumption) ?_
        rotate_left
        · intro w hSw
          try dsimp only at hSw
          go_simp
          try with_reducible rfl
        try simp only [Act.put, List.setIfInBounds_toArray, List.set_cons_zero, List.set_cons_succ]
        refine wpAnyH_take (i := 6) (oi := { dst := some 19, op := _, type := _, pos := _, after := _, guard := _ }) (v := ?_) rfl (by kernel_rfl) (by kernel_rfl) (by kernel_rfl) (fun _ _ _ h => h) (Or.inl ⟨by rfl, ?_⟩) (by assumption) ?_
        rotate_left
        · intro w hSw
          try dsimp only at hSw
          go_simp
          try with_reducible rfl
        try simp only [Act.put, List.setIfInBounds_toArray, List.set_cons_zero, List.set_cons_succ]
        refine wpAnyH_ready (rs := [7]) (by kernel_rfl) (by simp) ?_
        refine AllReadyH.cons rfl (fun K hK => ?_) AllReadyH.nil
        go_simp
        refine (radd_k t 0 x _ HX.out).mono ?_
        rintro e w' ⟨rfl, rfl⟩
        go_wp2_with fail
        refine hK.out _ _ ?_ (fun hHeld => ?_)
        · exact HSt.out _ HB1.out
        clear hK K
        try simp only [Act.put, List.setIfInBounds_toArray, List.set_cons_zero, List.set_cons_succ]
        refine wpAnyH_take (i := 8) (oi := { dst := some 21, op := _, type := _, pos := _, after := _, guard := _ }) (v := ?_) rfl (by kernel_rfl) (by kernel_rfl) (by kernel_rfl) (fun _ _ _ h => h) (Or.inl ⟨by rfl, ?_⟩) (by assumption) ?_
        rotate_left
        · intro w hSw
          try dsimp only at hSw
          go_simp
          try with_reducible rfl
        try simp only [Act.put, List.setIfInBounds_toArray, List.set_cons_zero, List.set_cons_succ]
        refine wpAnyH_done (by kernel_rfl) ?_ _
        obtain ⟨c0, c1, c2, c3, c4, c5⟩ := HCg.out _ HB1.out
        have HO4 := Lib.hid (own_below HW1.out (box_below wr.drew (kB g)))
        have HK4 := Lib.hid (ks_one wr.drew g)
        have HB4 := Lib.hid (HB1.out.trans ((box_below wr.drew (kB g)).mono HB1.out.size))
        unfold kB kcells at HO4 HK4 HB4
        go_wp2_with (at_builtin; refine app_ks _ HO4.out (.tmp 22) (.tmp 27) (some ⟨wr.drew.heap.size, 0, none⟩) 1 1 [g] ?_ ?_ ?_ ?_ ?_ ?_ ?_ ?_; exact rfl; exact rfl; exact rfl; exact rfl; exact HK4.out; omega; exact HB4.out.size; intro v5 w5 hown5 hb5)
        rw [← kcs_app] at hown5
        have HW5 := Lib.hid (show w5.ownsRow w.heap.size 31 6 v5 (C ++ [g]).length (kcs (C ++ [g])) by rw [List.length_append]; exact hown5)
        have HB5 := Lib.hid (HB4.out.trans hb5)
        clear hown5 hb5 c0 c1 c2 c3 c4 c5
        go_wp2_with fail
        go_roundw
        case rel => exact ⟨k + 1, C ++ [g], by omega, by go_num, HC1, HW5, HB5⟩
        case measure => simp [intOf]; omega
    · obtain rfl : k = l.length := by omega
      have HE := Lib.hid (show C = L by rw [← HL.out, ← HC.out, List.take_length])
      obtain ⟨bo, dap, e1, hat⟩ := ks_of_owns HW.out
      have HA := Lib.hid hat
      subst e1
      clear hat
      go_wp2_with fail
      go_ret
      refine ⟨bo, dap, ?_, ?_, HB.out⟩
      · rw [HE.out]; rfl
      · have := HA.out; rw [HE.out] at this; exact this
end Go.Proofs.YtgepcbggkfjlgaaGreatDoor
end

section
/-
  Contracts of keys' Signing and Accepting. Condition: strings of at most 1000000000 bytes, at most 1000 keys.
-/
set_option maxRecDepth 100000
set_option linter.unusedVariables false
set_option linter.unusedSimpArgs false
set_option linter.unnecessarySimpa false
namespace Go.Proofs.YtgepcbggkfjlgaaGreatDoor
open Go.RowKit Go.PlainAid

def lstK (b k : Ky) : Ky := if gtK k b then k else b
theorem lst_bst {t : Int} : ∀ {l : List Ky} {o : Option Ky}, (∀ k ∈ l, gtK k kZ ∧ inW k.sf k.su t = true) → l.foldl lstK (o.getD kZ) = (l.foldl (bstK t) o).getD kZ
  | [], o, _ => rfl
  | k :: l, o, h => by
    obtain ⟨h1, h2⟩ := h k (List.mem_cons_self ..)
    have h3 : lstK (o.getD kZ) k = (bstK t o k).getD kZ := by
      unfold lstK bstK
      rw [if_pos h2]
      cases o with
      | none => exact if_pos h1
      | some b =>
        dsimp only [Option.getD]
        split <;> rfl
    rw [List.foldl_cons, List.foldl_cons, h3]
    exact lst_bst fun q hq => h q (List.mem_cons_of_mem _ hq)
theorem word_pos {s : ByteArray} (h : wordB s = true) : s ≠ ⟨#[]⟩ := by
  rintro rfl
  revert h
  decide
theorem gt_zero {k : Ky} (h1 : wordB k.id = true) (h2 : winB k = true) : gtK k kZ := by
  have hw := winB_iff.1 h2
  unfold gtK
  by_cases h : k.sf = 0
  · right
    refine ⟨h.symm, ?_⟩
    have hz : kZ.id.data.toList = [] := rfl
    rw [hz]
    cases e : k.id.data.toList with
    | nil =>
      exfalso
      refine word_pos h1 ?_
      have : k.id.data = #[] := by rw [← Array.toList_eq_nil_iff]; exact e
      cases hk : k.id with
      | mk d => rw [hk] at this; exact congrArg _ this
    | cons x y => exact Int.zero_lt_one
  · left
    show (0 : Int) < k.sf
    omega
theorem sgn_lst {l : List Ky} {t : Int} {o : Option Ky} (hc : chkK l = 0) (ho : sgnK l t = o) : (l.filter fun k => inW k.sf k.su t).foldl lstK kZ = o.getD kZ ∧ ∀ k, o = some k → k.id ≠ ⟨#[]⟩ := by
  have hok := okK_of hc
  unfold sgnK at ho
  rw [if_pos hc] at ho
  refine ⟨?_, ?_⟩
  · have h1 := lst_bst (t := t) (l := l.filter fun k => inW k.sf k.su t) (o := none) fun k hk => by
      obtain ⟨hk1, hk2⟩ := List.mem_filter.1 hk
      exact ⟨gt_zero (hok.word k hk1) (hok.win k hk1), hk2⟩
    rw [fold_filter (p := fun k => inW k.sf k.su t) fun k _ h => h, ho] at h1
    exact h1
  · intro k hk
    subst hk
    rcases fold_mem (t := t) (l := l) (o := none) with h | ⟨q, hq, h, _⟩
    · rw [h] at ho; cases ho
    · rw [h] at ho
      cases ho
      exact word_pos (hok.word _ hq)
theorem KbC.set6 {W : World} {b : Nat} {x0 x1 x2 x3 x4 x5 u0 u1 u2 u3 u4 u5 : Value} {t : TypeId} (h : KbC W b (.cells #[x0, x1, x2, x3, x4, x5] t)) : KbC ((((((W.setCell ⟨b, 0, none⟩ u0).setCell ⟨b, 1, none⟩ u1).setCell ⟨b, 2, none⟩ u2).setCell ⟨b, 3, none⟩ u3).setCell ⟨b, 4, none⟩ u4).setCell ⟨b, 5, none⟩ u5) b (.cells #[u0, u1, u2, u3, u4, u5] t) := (((((h.set u0).set u1).set u2).set u3).set u4).set u5
theorem below_set6 {B : Nat} {w W : World} (h : Below B w W) {b : Nat} (hB : B ≤ b) (u0 u1 u2 u3 u4 u5 : Value) : Below B w ((((((W.setCell ⟨b, 0, none⟩ u0).setCell ⟨b, 1, none⟩ u1).setCell ⟨b, 2, none⟩ u2).setCell ⟨b, 3, none⟩ u3).setCell ⟨b, 4, none⟩ u4).setCell ⟨b, 5, none⟩ u5) :=
  (((((h.setCell (p := ⟨b, 0, none⟩) hB u0).setCell (p := ⟨b, 1, none⟩) hB u1).setCell (p := ⟨b, 2, none⟩) hB u2).setCell (p := ⟨b, 3, none⟩) hB u3).setCell (p := ⟨b, 4, none⟩) hB u4).setCell (p := ⟨b, 5, none⟩) hB u5
theorem sign_results (tmps : Array Value) (b : Nat) (cs : Array Value) (t : TypeId) (W : World) (hp : tmps.getD 4 undef = .pointer (some ⟨b, 0, none⟩)) (h : KbC W b (.cells cs t)) (h8 : cs.size = 6) :
    (results Tryz.f14 tmps).run Tryz.prog W = .ok (.tuple #[.agg cs, tmps.getD 5 undef]) W := by
  rw [results_cell_tmp rfl, hp]
  have hl := run_loadVar_row (P := Tryz.prog) W b t 31 cs (0, 0) _ h (by rfl) (by rfl) (by rw [h8]; rfl)
  simp [asAddr, Result.andThen, hl]
theorem rsign_results (tmps : Array Value) (b : Nat) (cs : Array Value) (t : TypeId) (W : World) (hp : tmps.getD 4 undef = .pointer (some ⟨b, 0, none⟩)) (h : KbC W b (.cells cs t)) (h8 : cs.size = 6) :
    (results Tryz.f15 tmps).run Tryz.prog W = .ok (.tuple #[.agg cs, tmps.getD 5 undef]) W := by
  rw [results_cell_tmp rfl, hp]
  have hl := run_loadVar_row (P := Tryz.prog) W b t 31 cs (0, 0) _ h (by rfl) (by rfl) (by rw [h8]; rfl)
  simp [asAddr, Result.andThen, hl]
theorem acc_results (tmps : Array Value) (b : Nat) (cs : Array Value) (t : TypeId) (W : World) (hp : tmps.getD 8 undef = .pointer (some ⟨b, 0, none⟩)) (h : KbC W b (.cells cs t)) (h8 : cs.size = 6) :
    (results Tryz.f16 tmps).run Tryz.prog W = .ok (.tuple #[.agg cs, tmps.getD 9 undef]) W := by
  rw [results_cell_tmp rfl, hp]
  have hl := run_loadVar_row (P := Tryz.prog) W b t 31 cs (0, 0) _ h (by rfl) (by rfl) (by rw [h8]; rfl)
  simp [asAddr, Result.andThen, hl]
theorem racc_results (tmps : Array Value) (b : Nat) (cs : Array Value) (t : TypeId) (W : World) (hp : tmps.getD 8 undef = .pointer (some ⟨b, 0, none⟩)) (h : KbC W b (.cells cs t)) (h8 : cs.size = 6) :
    (results Tryz.f17 tmps).run Tryz.prog W = .ok (.tuple #[.agg cs, tmps.getD 9 undef]) W := by
  rw [results_cell_tmp rfl, hp]
  have hl := run_loadVar_row (P := Tryz.prog) W b t 31 cs (0, 0) _ h (by rfl) (by rfl) (by rw [h8]; rfl)
  simp [asAddr, Result.andThen, hl]
/-- a call's box for its result -/
structure RsB (w : World) (b : Nat) (g : Ky) (W : World) : Prop where
  low : Below w.heap.size w W
  at_ : w.heap.size ≤ b
  box : KbC W b (kB g)
theorem RsB.step {w W V : World} {b : Nat} {g : Ky} (h : RsB w b g W) (hb : Below W.heap.size W V) : RsB w b g V := ⟨h.low.trans (hb.mono h.low.size), h.at_, h.box.step hb⟩
theorem kb_set {W : World} {b : Nat} {g : Ky} (h : KbC W b (kB g)) (i s : ByteArray) (sf su af au : Int) : KbC ((((((W.setCell ⟨b, 0, none⟩ (.string i)).setCell ⟨b, 1, none⟩ (.string s)).setCell ⟨b, 2, none⟩ (.int .i64 sf)).setCell ⟨b, 3, none⟩ (.int .i64 su)).setCell ⟨b, 4, none⟩ (.int .i64 af)).setCell ⟨b, 5, none⟩ (.int .i64 au)) b (kB ⟨i, s, sf, su, af, au⟩) := KbC.set6 h
/-- what has been kept but for one block -/
structure Bar (c : Nat) (w W : World) : Prop where
  size : w.heap.size ≤ W.heap.size
  keep : ∀ b, b < w.heap.size → b ≠ c → W.heap[b]? = w.heap[b]?
theorem Bar.refl (c : Nat) (w : World) : Bar c w w := ⟨Nat.le_refl _, fun _ _ _ => rfl⟩
theorem Bar.step {c : Nat} {w W V : World} (h : Bar c w W) (hb : Below W.heap.size W V) : Bar c w V := ⟨Nat.le_trans h.size hb.size, fun b h1 h2 => (hb.block b (Nat.lt_of_lt_of_le h1 h.size)).trans (h.keep b h1 h2)⟩
theorem Bar.set {c : Nat} {w W : World} (h : Bar c w W) (j : Nat) (v : Value) : Bar c w (W.setCell ⟨c, j, none⟩ v) := ⟨by rw [show (W.setCell ⟨c, j, none⟩ v).heap.size = W.heap.size from by simp [World.setCell]]; exact h.size, fun b h1 h2 => (heap_setCell_other W ⟨c, j, none⟩ b v h2).trans (h.keep b h1 h2)⟩
theorem Bar.set6 {c : Nat} {w W : World} (h : Bar c w W) (u0 u1 u2 u3 u4 u5 : Value) : Bar c w ((((((W.setCell ⟨c, 0, none⟩ u0).setCell ⟨c, 1, none⟩ u1).setCell ⟨c, 2, none⟩ u2).setCell ⟨c, 3, none⟩ u3).setCell ⟨c, 4, none⟩ u4).setCell ⟨c, 5, none⟩ u5) := (((((h.set 0 u0).set 1 u1).set 2 u2).set 3 u3).set 4 u4).set 5 u5
theorem IsKs.bar {c : Nat} {w W : World} {b off : Nat} {l : List Ky} (h : IsKs w b off l) (hb : Bar c w W) (hc : b ≠ c) : IsKs W b off l := ⟨Nat.lt_of_lt_of_le h.1 hb.size, fun j hj k hk => (World.cell?_of_block (a := ⟨b, off + j * 6 + k, none⟩) (hb.keep b h.1 hc)).trans (h.2 j hj k hk)⟩
theorem KbC.bar {c : Nat} {w W : World} {b : Nat} {o : Obj} (h : KbC w b o) (hb : Bar c w W) (hc : b ≠ c) : KbC W b o := (hb.keep b h.big hc).trans h
theorem id_nil {s : ByteArray} (h : s.toList = []) : s = ⟨#[]⟩ := by
  rw [Lib.toList_data] at h
  rw [← Lib.mk_data s, h]
theorem chkw_k (a b t s r : Int) (w : World) (h : checkI a b t s = r) :
    Calls Tryz.prog 42 #[.agg #[.int .i64 a, .int .i64 b], .int .i64 t, .int .i64 s] w fun e w' => e = .returned (.int .i64 r) ∧ Below w.heap.size w w' := by subst h; exact check_s a b t s w
theorem rchkw_k (a b t s r : Int) (w : World) (h : checkI a b t s = r) :
    Calls Tryz.prog 43 #[.agg #[.int .i64 a, .int .i64 b], .int .i64 t, .int .i64 s] w fun e w' => e = .returned (.int .i64 r) ∧ Below w.heap.size w w' := by subst h; exact rcheck_s a b t s w
set_option maxHeartbeats 4000000 in
theorem accepting_k (ao : Option Addr) (n cap : Nat) (l : List Ky) (id : ByteArray) (t s z : Int) (g : Ky) (w : World) (h : KsAt w ao n cap l) (hz : accK l id t s = (g, z)) :
    Calls Tryz.prog 16 #[.slice ao n cap, .string id, .int .i64 t, .int .i64 s] w fun e w' => e = .returned (.tuple #[kV g, .int .i64 z]) ∧ Below w.heap.size w w' := by
  have H := Lib.hid h
  obtain ⟨h1, h2, h3, _, _⟩ := h
  subst h1
  unfold maxLen at h3
  have HR := Lib.hid (show RsB w w.heap.size kZ (w.alloc (kB kZ)) from ⟨box_below w _, Nat.le_refl _, kbc_new w _⟩)
  have HK := Lib.hid (H.out.below (box_below w (kB kZ)))
  dsimp only [kB, kcells, kZ] at HR HK
  unfold accK at hz
  rcases ixR_cases l id with ⟨q1, q2, q3⟩ | ⟨k, hk, q1, q2, q3⟩
  · rw [q3] at hz
    obtain ⟨rfl, rfl⟩ := Prod.mk.inj hz
    have Q1 := Lib.hid q1
    clear hz q1 q2 q3
    go_enter Tryz.func16, Tryz.ntmps16
    go_wp2_with fail
    refine (find_k ao _ cap l id _ _ HK.out Q1.out).mono ?_
    rintro e w1 ⟨rfl, hb⟩
    have HR1 := Lib.hid (HR.out.step hb)
    clear hb
    obtain ⟨g0, g1, g2, g3, g4, g5⟩ := kb_cells HR1.out.box
    have gf : ∀ j, w1.frozen? ⟨w.heap.size, j, none⟩ = false := fun j => HR1.out.box.frz
    go_wp2_with fail
    exact bodyPost_ret (acc_results _ _ _ _ _ rfl (KbC.set6 HR1.out.box) rfl) rfl ⟨rfl, below_set6 HR1.out.low (Nat.le_refl _) _ _ _ _ _ _⟩
  · rw [q3] at hz
    dsimp only at hz
    obtain ⟨b, off, rfl, hsl⟩ := H.out.2.2.2.1 (by omega)
    have HSl := Lib.hid hsl
    obtain ⟨x, hx⟩ : ∃ x, kA l k = x := ⟨_, rfl⟩
    rw [hx] at hz
    have HCx : Hid (∀ V, Below w.heap.size w V → AtK V b (off + k * 6) x) := Lib.hid fun V hV => by rw [← hx]; exact (HSl.out.below hV HSl.out.1).at_ hk
    have Q1 := Lib.hid q1
    obtain ⟨y, hy⟩ : ∃ y, checkI x.af x.au t s = y := ⟨_, rfl⟩
    rw [hy] at hz
    have HY := Lib.hid hy
    clear q1 q2 q3 hsl hx hy
    cases qy : (y != 0)
    · have e0 : y = 0 := by simpa using qy
      subst e0
      rw [if_neg (by decide)] at hz
      obtain ⟨rfl, rfl⟩ := Prod.mk.inj hz
      clear hz qy
      go_enter Tryz.func16, Tryz.ntmps16
      go_wp2_with fail
      refine (find_k _ _ cap l id _ _ HK.out Q1.out).mono ?_
      rintro e w1 ⟨rfl, hb⟩
      have HR1 := Lib.hid (HR.out.step hb)
      clear hb
      obtain ⟨c0, c1, c2, c3, c4, c5⟩ := HCx.out _ HR1.out.low
      have hkn : ¬ ((k : Int) < 0) := by omega
      go_wp2_with fail
      refine (chkw_k x.af x.au t s 0 _ HY.out).mono ?_
      rintro e w2 ⟨rfl, hb⟩
      have HR2 := Lib.hid (HR1.out.step hb)
      clear hb c0 c1 c2 c3 c4 c5
      obtain ⟨c0, c1, c2, c3, c4, c5⟩ := HCx.out _ HR2.out.low
      obtain ⟨g0, g1, g2, g3, g4, g5⟩ := kb_cells HR2.out.box
      have gf : ∀ j, w2.frozen? ⟨w.heap.size, j, none⟩ = false := fun j => HR2.out.box.frz
      go_wp2_with fail
      exact bodyPost_ret (acc_results _ _ _ _ _ rfl (KbC.set6 HR2.out.box) rfl) rfl ⟨rfl, below_set6 HR2.out.low (Nat.le_refl _) _ _ _ _ _ _⟩
    · have e0 : y ≠ 0 := by simpa using qy
      rw [if_pos e0] at hz
      obtain ⟨rfl, rfl⟩ := Prod.mk.inj hz
      clear hz
      go_enter Tryz.func16, Tryz.ntmps16
      go_wp2_with fail
      refine (find_k _ _ cap l id _ _ HK.out Q1.out).mono ?_
      rintro e w1 ⟨rfl, hb⟩
      have HR1 := Lib.hid (HR.out.step hb)
      clear hb
      obtain ⟨c0, c1, c2, c3, c4, c5⟩ := HCx.out _ HR1.out.low
      have hkn : ¬ ((k : Int) < 0) := by omega
      go_wp2_with fail
      refine (chkw_k x.af x.au t s y _ HY.out).mono ?_
      rintro e w2 ⟨rfl, hb⟩
      have HR2 := Lib.hid (HR1.out.step hb)
      clear hb c0 c1 c2 c3 c4 c5
      obtain ⟨g0, g1, g2, g3, g4, g5⟩ := kb_cells HR2.out.box
      have gf : ∀ j, w2.frozen? ⟨w.heap.size, j, none⟩ = false := fun j => HR2.out.box.frz
      go_wp2_with fail
      exact bodyPost_ret (acc_results _ _ _ _ _ rfl (KbC.set6 HR2.out.box) rfl) rfl ⟨rfl, below_set6 HR2.out.low (Nat.le_refl _) _ _ _ _ _ _⟩
set_option maxHeartbeats 8000000 in
theorem signing_k (ao : Option Addr) (n cap : Nat) (l : List Ky) (t : Int) (o : Option Ky) (w : World) (h : KsAt w ao n cap l) (hs : ∀ k ∈ l, SmK k) (ho : sgnK l t = o) :
    Calls Tryz.prog 14 #[.slice ao n cap, .int .i64 t] w fun e w' => e = .returned (.tuple #[kV (o.getD kZ), .bool o.isSome]) ∧ Below w.heap.size w w' := by
  have H := Lib.hid h
  obtain ⟨h1, h2, h3, _, _⟩ := h
  subst h1
  unfold maxLen at h3
  have HB0 := Lib.hid ((box_below w (intB t)).trans ((box_below (w.alloc (intB t)) (kB kZ)).mono (box_below w (intB t)).size))
  have HR := Lib.hid (show RsB w (w.heap.size + 1) kZ ((w.alloc (intB t)).alloc (kB kZ)) from ⟨HB0.out, by omega, by
    have := kbc_new (w.alloc (intB t)) (kB kZ)
    rw [World.size_alloc] at this
    exact this⟩)
  have HK := Lib.hid (H.out.below HB0.out)
  have HT := Lib.hid ((kbc_new w (intB t)).step (box_below (w.alloc (intB t)) (kB kZ)))
  dsimp only [kB, kcells, kZ, intB] at HR HK HT
  obtain ⟨z, hz⟩ : ∃ z, chkK l = z := ⟨_, rfl⟩
  have HZ := Lib.hid hz
  have HS := Lib.hid hs
  cases qz : (z != 0)
  · have e0 : z = 0 := by simpa using qz
    subst e0
    obtain ⟨L, hL⟩ : ∃ L, (l.filter fun k => inW k.sf k.su t) = L := ⟨_, rfl⟩
    have hg := sgn_lst hz ho
    rw [hL] at hg
    have hn16 := (okK_of hz).len
    have hLl : L.length ≤ 16 := by rw [← hL]; exact Nat.le_trans (List.length_filter_le _ _) hn16
    have HL := Lib.hid hL
    have HG := Lib.hid hg
    clear hz hs ho HB0 qz hL hg
    go_enter Tryz.func14, Tryz.ntmps14
    go_wp2_with fail
    refine (check_k _ _ cap l _ _ HK.out HS.out HZ.out).mono ?_
    rintro e w1 ⟨rfl, hb⟩
    have HR1 := Lib.hid (HR.out.step hb)
    have HT1 := Lib.hid (HT.out.step hb)
    have HK1 := Lib.hid (HK.out.below hb)
    have HR2 := Lib.hid (HR1.out.step (box_below w1 (kB kZ)))
    have HT2 := Lib.hid (HT1.out.step (box_below w1 (kB kZ)))
    have HK2 := Lib.hid (HK1.out.below (box_below w1 (kB kZ)))
    have HX2 := Lib.hid (kbc_new w1 (kB kZ))
    dsimp only [kB, kcells, kZ, intB] at HR2 HT2 HK2 HX2
    clear hb
    have HR2 := Lib.hid (HR1.out.step (box_below w1 (kB kZ)))
    go_wp2_with fail
    refine (selS_k _ _ cap l L w.heap.size t _ HK2.out HT2.out (by omega) HL.out).mono ?_
    rintro e w3 ⟨bo, dap, rfl, hat, hb, hfr⟩
    have HR3 := Lib.hid (HR2.out.step hb)
    have HX3 := Lib.hid (HX2.out.step hb)
    have HA := Lib.hid hat
    have HB3 := Lib.hid (show w.heap.size + 1 < w1.heap.size from HR1.out.box.big)
    clear hb hat
    go_wp2_with fail
    have HN : Hid (∀ b off, bo = some ⟨b, off, none⟩ → b ≠ w1.heap.size) := Lib.hid fun b off e => by
      have := hfr b off e
      rw [World.size_alloc] at this
      omega
    have HZ1 := Lib.hid (show w.heap.size ≤ w1.heap.size from HR1.out.low.size)
    clear hfr
    go_loopw [17] (fun iv wr => ∃ (k : Nat) (C : Ky), k ≤ L.length ∧ iv = .int .i64 k ∧ Hid ((L.take k).foldl lstK kZ = C) ∧ Hid (KbC wr w1.heap.size (kB C)) ∧ Hid (Bar w1.heap.size w3 wr) ∧ Hid (Below w.heap.size w wr)) (fun iv _ => L.length - (intOf iv).toNat)
    case atStart => exact ⟨0, kZ, Nat.zero_le _, rfl, Lib.hid rfl, HX3, Lib.hid (Bar.refl _ _), Lib.hid HR3.out.low⟩
    case round =>
      obtain ⟨k, C, hk, rfl, HC, HX, HBr, HB⟩ := hrel
      by_cases hlt : k < L.length
      · obtain ⟨b, off, rfl, hsl⟩ := HA.out.2.2.2.1 (by omega)
        have hat := (hsl.bar HBr.out (HN.out b off rfl)).at_ hlt
        obtain ⟨g, hg⟩ : ∃ g, kA L k = g := ⟨_, rfl⟩
        rw [hg] at hat
        have hC1 : (L.take (k + 1)).foldl lstK kZ = lstK C g := by rw [take_k L k hlt, hg, List.foldl_append, HC.out]; rfl
        obtain ⟨c0, c1, c2, c3, c4, c5⟩ := hat
        have HK2 := Lib.hid (kbc_new wr (kB g))
        have HX2 := Lib.hid (HX.out.step (box_below wr (kB g)))
        have HBr2 := Lib.hid (HBr.out.step (box_below wr (kB g)))
        have HB2 := Lib.hid (HB.out.trans ((box_below wr (kB g)).mono HB.out.size))
        unfold kB kcells at HK2 HX2 HBr2 HB2
        have k0 := HK2.out.cell (i := 0) rfl
        have k1 := HK2.out.cell (i := 1) rfl
        have k2 := HK2.out.cell (i := 2) rfl
        have k3 := HK2.out.cell (i := 3) rfl
        have k4 := HK2.out.cell (i := 4) rfl
        have k5 := HK2.out.cell (i := 5) rfl
        have x0 := HX2.out.cell (i := 0) rfl
        have x1 := HX2.out.cell (i := 1) rfl
        have x2 := HX2.out.cell (i := 2) rfl
        have x3 := HX2.out.cell (i := 3) rfl
        have x4 := HX2.out.cell (i := 4) rfl
        have x5 := HX2.out.cell (i := 5) rfl
        obtain ⟨r, hr⟩ : ∃ r, cmpK g C = r := ⟨_, rfl⟩
        have hgt := cmpK_gt g C
        rw [hr] at hgt
        have HQ := Lib.hid hr
        clear hsl hg hr
        cases q : decide (0 < r)
        · have HC1 := Lib.hid (show (L.take (k + 1)).foldl lstK kZ = C by rw [hC1]; exact if_neg fun h => absurd (hgt.2 h) (of_decide_eq_false q))
          clear hgt hC1
          go_wp2_with fail
          refine (compare_k g C r _ HQ.out).mono ?_
          rintro e w4 ⟨rfl, hb⟩
          have HX4 := Lib.hid (HX2.out.step hb)
          have HBr4 := Lib.hid (HBr2.out.step hb)
          have HB4 := Lib.hid (HB2.out.trans (hb.mono HB2.out.size))
          clear hb c0 c1 c2 c3 c4 c5 k0 k1 k2 k3 k4 k5 x0 x1 x2 x3 x4 x5
          go_wp2_with fail
          go_roundw
          case rel => exact ⟨k + 1, C, by omega, by go_num, HC1, HX4, HBr4, HB4⟩
          case measure => simp [intOf]; omega
        · have HC1 := Lib.hid (show (L.take (k + 1)).foldl lstK kZ = g by rw [hC1]; exact if_pos (hgt.1 (of_decide_eq_true q)))
          clear hgt hC1
          go_wp2_with fail
          refine (compare_k g C r _ HQ.out).mono ?_
          rintro e w4 ⟨rfl, hb⟩
          have HX4 := Lib.hid (HX2.out.step hb)
          have HK4 := Lib.hid (HK2.out.step hb)
          have HBr4 := Lib.hid (HBr2.out.step hb)
          have HB4 := Lib.hid (HB2.out.trans (hb.mono HB2.out.size))
          clear hb c0 c1 c2 c3 c4 c5 k0 k1 k2 k3 k4 k5 x0 x1 x2 x3 x4 x5
          have k0 := HK4.out.cell (i := 0) rfl
          have k1 := HK4.out.cell (i := 1) rfl
          have k2 := HK4.out.cell (i := 2) rfl
          have k3 := HK4.out.cell (i := 3) rfl
          have k4 := HK4.out.cell (i := 4) rfl
          have k5 := HK4.out.cell (i := 5) rfl
          have x0 := HX4.out.cell (i := 0) rfl
          have x1 := HX4.out.cell (i := 1) rfl
          have x2 := HX4.out.cell (i := 2) rfl
          have x3 := HX4.out.cell (i := 3) rfl
          have x4 := HX4.out.cell (i := 4) rfl
          have x5 := HX4.out.cell (i := 5) rfl
          have xf : ∀ j, w4.frozen? ⟨w1.heap.size, j, none⟩ = false := fun j => HX4.out.frz
          have HX5 := Lib.hid (KbC.set6 (u0 := .string g.id) (u1 := .string g.sec) (u2 := .int .i64 g.sf) (u3 := .int .i64 g.su) (u4 := .int .i64 g.af) (u5 := .int .i64 g.au) HX4.out)
          have HBr5 := Lib.hid (HBr4.out.set6 (.string g.id) (.string g.sec) (.int .i64 g.sf) (.int .i64 g.su) (.int .i64 g.af) (.int .i64 g.au))
          have HB5 := Lib.hid (below_set6 HB4.out HZ1.out (.string g.id) (.string g.sec) (.int .i64 g.sf) (.int .i64 g.su) (.int .i64 g.af) (.int .i64 g.au))
          go_wp2_with fail
          go_roundw
          case rel => exact ⟨k + 1, g, by omega, by go_num, HC1, HX5, HBr5, HB5⟩
          case measure => simp [intOf]; omega
      · obtain rfl : k = L.length := by omega
        have HR5 := Lib.hid (HR3.out.box.bar HBr.out (Nat.ne_of_lt HB3.out))
        obtain ⟨hz1, hz2⟩ := HG.out
        have HE := Lib.hid (show C = o.getD kZ by rw [← HC.out, List.take_length]; exact hz1)
        have HI := Lib.hid hz2
        cases o with
        | none =>
          obtain rfl : C = kZ := HE.out
          have HX9 := Lib.hid (HX.out.step (Below.refl wr.heap.size wr).drew)
          have HR9 := Lib.hid (HR5.out.step (Below.refl wr.heap.size wr).drew)
          have HB9 := Lib.hid (HB.out.trans ((Below.refl wr.heap.size wr).drew.mono HB.out.size))
          have HX10 := Lib.hid (HX9.out.bar ((Bar.refl (w.heap.size + 1) wr.drew).set6 (.string ⟨#[]⟩) (.string ⟨#[]⟩) (.int .i64 0) (.int .i64 0) (.int .i64 0) (.int .i64 0)) (Nat.ne_of_gt HB3.out))
          have HSt : Hid (∀ V, KbC V w1.heap.size (kB kZ) → V.cell? ⟨w1.heap.size, 0, none⟩ = some (.string ⟨#[]⟩) ∧ V.cell? ⟨w1.heap.size, 1, none⟩ = some (.string ⟨#[]⟩) ∧ V.cell? ⟨w1.heap.size, 2, none⟩ = some (.int .i64 0) ∧ V.cell? ⟨w1.heap.size, 3, none⟩ = some (.int .i64 0) ∧ V.cell? ⟨w1.heap.size, 4, none⟩ = some (.int .i64 0) ∧ V.cell? ⟨w1.heap.size, 5, none⟩ = some (.int .i64 0)) := Lib.hid fun V h => kb_cells h
          have S0 := HSt.out _ HX9.out
          have hne : ByteArray.toList ⟨#[]⟩ = [] := by rw [Lib.toList_data]
          clear hz1 hz2
          go_wp2_with fail
          refine wp_region_held_drew (S := fun V => V.cell? ⟨w1.heap.size, 0, none⟩ = some (.string ⟨#[]⟩) ∧ V.cell? ⟨w1.heap.size, 1, none⟩ = some (.string ⟨#[]⟩) ∧ V.cell? ⟨w1.heap.size, 2, none⟩ = some (.int .i64 0) ∧ V.cell? ⟨w1.heap.size, 3, none⟩ = some (.int .i64 0) ∧ V.cell? ⟨w1.heap.size, 4, none⟩ = some (.int .i64 0) ∧ V.cell? ⟨w1.heap.size, 5, none⟩ = some (.int .i64 0)) (by kernel_rfl) (S0) (fun hS => ?_)
          obtain ⟨Z, hZ⟩ : ∃ x, wr.drew = x := ⟨_, rfl⟩
          rw [hZ] at hS HX9 HR9 HB9 HX10 ⊢
          clear hZ S0
          obtain ⟨g0, g1, g2, g3, g4, g5⟩ := kb_cells HR9.out
          have gf : ∀ j, Z.frozen? ⟨w.heap.size + 1, j, none⟩ = false := fun j => HR9.out.frz
          refine wpAnyH_take (i := 0) (oi := { dst := some 27, op := _, type := _, pos := _, after := _, guard := _ }) (v := ?_) rfl (by kernel_rfl) (by kernel_rfl) (by kernel_rfl) (fun _ _ _ h => h) (Or.inl ⟨by rfl, ?_⟩) (by assumption) ?_
          rotate_left
          · intro w hSw
            try dsimp only at hSw
            go_simp
            try with_reducible rfl
          try simp only [Act.put, List.setIfInBounds_toArray, List.set_cons_zero, List.set_cons_succ]
          refine wpAnyH_take (i := 1) (oi := { dst := some 28, op := _, type := _, pos := _, after := _, guard := _ }) (v := ?_) rfl (by kernel_rfl) (by kernel_rfl) (by kernel_rfl) (fun _ _ _ h => h) (Or.inl ⟨by rfl, ?_⟩) (by assumption) ?_
          rotate_left
          · intro w hSw
            try dsimp only at hSw
            go_simp
            try with_reducible rfl
          try simp only [Act.put, List.setIfInBounds_toArray, List.set_cons_zero, List.set_cons_succ]
          refine wpAnyH_take (i := 2) (oi := { dst := some 29, op := _, type := _, pos := _, after := _, guard := _ }) (v := ?_) rfl (by kernel_rfl) (by kernel_rfl) (by kernel_rfl) (fun _ _ _ h => h) (Or.inl ⟨by rfl, ?_⟩) (by assumption) ?_
          rotate_left
          · intro w hSw
            try dsimp only at hSw
            go_simp
            try with_reducible rfl
          try simp only [Act.put, List.setIfInBounds_toArray, List.set_cons_zero, List.set_cons_succ]
          refine wpAnyH_take (i := 3) (oi := { dst := some 30, op := _, type := _, pos := _, after := _, guard := _ }) (v := ?_) rfl (by kernel_rfl) (by kernel_rfl) (by kernel_rfl) (fun _ _ _ h => h) (Or.inl ⟨by rfl, ?_⟩) (by assumption) ?_
          rotate_left
          · intro w hSw
            try dsimp only at hSw
            go_simp
            try with_reducible rfl
          try simp only [Act.put, List.setIfInBounds_toArray, List.set_cons_zero, List.set_cons_succ]
          refine wpAnyH_ready (rs := [4]) (by kernel_rfl) (by simp) ?_
          refine AllReadyH.cons rfl (fun K hK => ?_) AllReadyH.nil
          go_simp
          refine hK.out _ _ ?_ (fun hHeld => ?_)
          · exact HSt.out _ HX10.out
          clear hK K
          try simp only [Act.put, List.setIfInBounds_toArray, List.set_cons_zero, List.set_cons_succ]
          refine wpAnyH_take (i := 5) (oi := { dst := some 5, op := _, type := _, pos := _, after := _, guard := _ }) (v := ?_) rfl (by kernel_rfl) (by kernel_rfl) (by kernel_rfl) (fun _ _ _ h => h) (Or.inl ⟨by rfl, ?_⟩) (by assumption) ?_
          rotate_left
          · intro w hSw
            try dsimp only at hSw
            go_simp
            try with_reducible rfl
          try simp only [Act.put, List.setIfInBounds_toArray, List.set_cons_zero, List.set_cons_succ]
          refine wpAnyH_done (by kernel_rfl) ?_ _
          go_wp2_with fail
          refine bodyPost_ret (sign_results _ _ _ _ _ rfl (KbC.set6 HR9.out) rfl) rfl ⟨?_, below_set6 HB9.out (by omega) _ _ _ _ _ _⟩
          rfl
        | some q =>
          obtain rfl : C = q := HE.out
          have HNe := Lib.hid (fun e => HI.out C rfl (id_nil e))
          have HX9 := Lib.hid (HX.out.step (Below.refl wr.heap.size wr).drew)
          have HR9 := Lib.hid (HR5.out.step (Below.refl wr.heap.size wr).drew)
          have HB9 := Lib.hid (HB.out.trans ((Below.refl wr.heap.size wr).drew.mono HB.out.size))
          have HX10 := Lib.hid (HX9.out.bar ((Bar.refl (w.heap.size + 1) wr.drew).set6 (.string C.id) (.string C.sec) (.int .i64 C.sf) (.int .i64 C.su) (.int .i64 C.af) (.int .i64 C.au)) (Nat.ne_of_gt HB3.out))
          have HSt : Hid (∀ V, KbC V w1.heap.size (kB C) → V.cell? ⟨w1.heap.size, 0, none⟩ = some (.string C.id) ∧ V.cell? ⟨w1.heap.size, 1, none⟩ = some (.string C.sec) ∧ V.cell? ⟨w1.heap.size, 2, none⟩ = some (.int .i64 C.sf) ∧ V.cell? ⟨w1.heap.size, 3, none⟩ = some (.int .i64 C.su) ∧ V.cell? ⟨w1.heap.size, 4, none⟩ = some (.int .i64 C.af) ∧ V.cell? ⟨w1.heap.size, 5, none⟩ = some (.int .i64 C.au)) := Lib.hid fun V h => kb_cells h
          have S0 := HSt.out _ HX9.out
          have hne : ¬ C.id.toList = [] := HNe.out
          clear hz1 hz2
          go_wp2_with fail
          refine wp_region_held_drew (S := fun V => V.cell? ⟨w1.heap.size, 0, none⟩ = some (.string C.id) ∧ V.cell? ⟨w1.heap.size, 1, none⟩ = some (.string C.sec) ∧ V.cell? ⟨w1.heap.size, 2, none⟩ = some (.int .i64 C.sf) ∧ V.cell? ⟨w1.heap.size, 3, none⟩ = some (.int .i64 C.su) ∧ V.cell? ⟨w1.heap.size, 4, none⟩ = some (.int .i64 C.af) ∧ V.cell? ⟨w1.heap.size, 5, none⟩ = some (.int .i64 C.au)) (by kernel_rfl) (S0) (fun hS => ?_)
          obtain ⟨Z, hZ⟩ : ∃ x, wr.drew = x := ⟨_, rfl⟩
          rw [hZ] at hS HX9 HR9 HB9 HX10 ⊢
          clear hZ S0
          obtain ⟨g0, g1, g2, g3, g4, g5⟩ := kb_cells HR9.out
          have gf : ∀ j, Z.frozen? ⟨w.heap.size + 1, j, none⟩ = false := fun j => HR9.out.frz
          refine wpAnyH_take (i := 0) (oi := { dst := some 27, op := _, type := _, pos := _, after := _, guard := _ }) (v := ?_) rfl (by kernel_rfl) (by kernel_rfl) (by kernel_rfl) (fun _ _ _ h => h) (Or.inl ⟨by rfl, ?_⟩) (by assumption) ?_
          rotate_left
          · intro w hSw
            try dsimp only at hSw
            go_simp
            try with_reducible rfl
          try simp only [Act.put, List.setIfInBounds_toArray, List.set_cons_zero, List.set_cons_succ]
          refine wpAnyH_take (i := 1) (oi := { dst := some 28, op := _, type := _, pos := _, after := _, guard := _ }) (v := ?_) rfl (by kernel_rfl) (by kernel_rfl) (by kernel_rfl) (fun _ _ _ h => h) (Or.inl ⟨by rfl, ?_⟩) (by assumption) ?_
          rotate_left
          · intro w hSw
            try dsimp only at hSw
            go_simp
            try with_reducible rfl
          try simp only [Act.put, List.setIfInBounds_toArray, List.set_cons_zero, List.set_cons_succ]
          refine wpAnyH_take (i := 2) (oi := { dst := some 29, op := _, type := _, pos := _, after := _, guard := _ }) (v := ?_) rfl (by kernel_rfl) (by kernel_rfl) (by kernel_rfl) (fun _ _ _ h => h) (Or.inl ⟨by rfl, ?_⟩) (by assumption) ?_
          rotate_left
          · intro w hSw
            try dsimp only at hSw
            go_simp
            try with_reducible rfl
          try simp only [Act.put, List.setIfInBounds_toArray, List.set_cons_zero, List.set_cons_succ]
          refine wpAnyH_take (i := 3) (oi := { dst := some 30, op := _, type := _, pos := _, after := _, guard := _ }) (v := ?_) rfl (by kernel_rfl) (by kernel_rfl) (by kernel_rfl) (fun _ _ _ h => h) (Or.inl ⟨by rfl, ?_⟩) (by assumption) ?_
          rotate_left
          · intro w hSw
            try dsimp only at hSw
            go_simp
            try with_reducible rfl
          try simp only [Act.put, List.setIfInBounds_toArray, List.set_cons_zero, List.set_cons_succ]
          refine wpAnyH_ready (rs := [4]) (by kernel_rfl) (by simp) ?_
          refine AllReadyH.cons rfl (fun K hK => ?_) AllReadyH.nil
          go_simp
          refine hK.out _ _ ?_ (fun hHeld => ?_)
          · exact HSt.out _ HX10.out
          clear hK K
          try simp only [Act.put, List.setIfInBounds_toArray, List.set_cons_zero, List.set_cons_succ]
          refine wpAnyH_take (i := 5) (oi := { dst := some 5, op := _, type := _, pos := _, after := _, guard := _ }) (v := ?_) rfl (by kernel_rfl) (by kernel_rfl) (by kernel_rfl) (fun _ _ _ h => h) (Or.inl ⟨by rfl, ?_⟩) (by assumption) ?_
          rotate_left
          · intro w hSw
            try dsimp only at hSw
            go_simp
            try with_reducible rfl
          try simp only [Act.put, List.setIfInBounds_toArray, List.set_cons_zero, List.set_cons_succ]
          refine wpAnyH_done (by kernel_rfl) ?_ _
          go_wp2_with fail
          refine bodyPost_ret (sign_results _ _ _ _ _ rfl (KbC.set6 HR9.out) rfl) rfl ⟨?_, below_set6 HB9.out (by omega) _ _ _ _ _ _⟩
          rfl
  · have e0 : z ≠ 0 := by simpa using qz
    unfold sgnK at ho
    rw [hz, if_neg e0] at ho
    subst ho
    clear hz hs HB0
    go_enter Tryz.func14, Tryz.ntmps14
    go_wp2_with fail
    refine (check_k _ _ cap l _ _ HK.out HS.out HZ.out).mono ?_
    rintro e w1 ⟨rfl, hb⟩
    have HR1 := Lib.hid (HR.out.step hb)
    clear hb
    obtain ⟨g0, g1, g2, g3, g4, g5⟩ := kb_cells HR1.out.box
    have gf : ∀ j, w1.frozen? ⟨w.heap.size + 1, j, none⟩ = false := fun j => HR1.out.box.frz
    go_wp2_with fail
    exact bodyPost_ret (sign_results _ _ _ _ _ rfl (KbC.set6 HR1.out.box) rfl) rfl ⟨rfl, below_set6 HR1.out.low (by omega) _ _ _ _ _ _⟩
end Go.Proofs.YtgepcbggkfjlgaaGreatDoor
end
