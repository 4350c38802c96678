/-
  Contracts of the specification's journal: Made, Durable, Sync, Bytes, Append, Records, Open, New. Conditions: the journal lies in memory as JouM says.
-/
import Derived.Test.YtafecnaeoeanmaaDoorJouO
set_option maxRecDepth 100000
set_option linter.unusedVariables false
set_option linter.unusedSimpArgs false
set_option linter.unnecessarySimpa false
namespace Go.Proofs.YtafecnaeoeanmaaDoor
open Go.RowKit Go.PlainAid

theorem rmade_j {w : World} {B b d : Nat} {l : List ByteArray} {v : Value} (h : RA w B b l d v) :
    Calls Tryd.prog 37 #[.pointer (some ⟨b, 0, none⟩)] w fun e w' => e = .returned (.bool true) ∧ w = w' := by
  obtain ⟨c0, c1, c2, f1, f2⟩ := h.flat
  clear h
  go_enter Tryd.func37, Tryd.ntmps37
  go_wp2_with fail
  go_ret
  exact ⟨rfl, rfl⟩
theorem rdurable_s (B b d : Nat) (l : List ByteArray) (v : Value) (w : World) (h : RA w B b l d v) :
    Calls Tryd.prog 21 #[.pointer (some ⟨b, 0, none⟩)] w fun e w' => e = .returned (.int .i64 d) ∧ w = w' := by
  obtain ⟨c0, c1, c2, f1, f2⟩ := h.flat
  have HM := Lib.hid (rmade_j h)
  clear h
  go_enter Tryd.func21, Tryd.ntmps21
  go_wp2_with fail
  refine HM.out.mono ?_
  rintro e w' ⟨rfl, rfl⟩
  go_wp2_with fail
  go_ret
  exact ⟨rfl, rfl⟩
theorem rsync_s (B b d : Nat) (l : List ByteArray) (v : Value) (w : World) (h : RA w B b l d v) :
    Calls Tryd.prog 41 #[.pointer (some ⟨b, 0, none⟩)] w fun e w' => e = .returned (.int .i64 l.length) ∧ RA w' B b l l.length v ∧ Mv b v v w w' := by
  obtain ⟨c0, c1, c2, f1, f2⟩ := h.flat
  obtain ⟨ao, cap, hv, hs⟩ := strs_own h.row rfl
  have HM := Lib.hid (rmade_j h)
  have H := Lib.hid (h.sync (Nat.le_refl l.length))
  clear h hs
  subst hv
  go_enter Tryd.func41, Tryd.ntmps41
  go_wp2_with fail
  refine HM.out.mono ?_
  rintro e w' ⟨rfl, rfl⟩
  go_wp2_with fail
  go_ret
  exact ⟨rfl, H.out, Mv.set 2 _⟩
set_option maxHeartbeats 2000000 in
theorem rbytesM_s (B b d : Nat) (l : List ByteArray) (v : Value) (w : World) (h : RA w B b l d v) :
    Calls Tryd.prog 23 #[.pointer (some ⟨b, 0, none⟩)] w fun e w' => e = .returned (.string (encsS (l.take d))) ∧ Below w.heap.size w w' := by
  have H := Lib.hid h
  have HM := Lib.hid (rmade_j h)
  have hdl := h.dl
  have hcn := h.cnt
  have HZ := Lib.hid (fun r (hr : r ∈ l.take d) => h.sm r (List.mem_of_mem_take hr))
  obtain ⟨ao, cap, hv, hs⟩ := strs_own h.row rfl
  subst hv
  have hcap : l.length ≤ cap := hs.2.1
  have hmx : cap ≤ 9223372036854775807 := by have := hs.2.2.1; unfold maxLen at this; omega
  have hdc : d ≤ cap := Nat.le_trans hdl hcap
  have HSt := Lib.hid (show ∀ V, Below w.heap.size w V → V.cell? ⟨b, 1, none⟩ = some (.slice ao l.length cap) ∧ V.cell? ⟨b, 2, none⟩ = some (.int .i64 d) ∧ Hid (Below w.heap.size w V) from fun V hb => ⟨(h.step hb).flat.2.1, (h.step hb).flat.2.2.1, Lib.hid hb⟩)
  rcases h.row.2 with ⟨e1, e2⟩ | ⟨g, cap', cur, e1, _⟩
  · have hl0 : l = [] := List.eq_nil_of_length_eq_zero e2
    subst hl0
    injection e1 with e1 _ e3
    subst e1 e3
    have hd0 : d = 0 := by simpa using hdl
    subst hd0
    have HS : Hid (StrsAt w none 0 0 (List.take 0 ([] : List ByteArray))) := Lib.hid hs
    clear h hs
    go_enter Tryd.func23, Tryd.ntmps23
    go_wp2_with fail
    refine HM.out.mono ?_
    rintro e w' ⟨rfl, rfl⟩
    go_wp2_with fail
    have HB := Lib.hid (Below.refl w.heap.size w).drew
    have S0 := HSt.out _ HB.out
    refine wp_region_held_drew (S := fun V => V.cell? ⟨b, 1, none⟩ = some (.slice none 0 0) ∧ V.cell? ⟨b, 2, none⟩ = some (.int .i64 0) ∧ Hid (Below w.heap.size w V)) (by kernel_rfl) (S0) (fun hS => ?_)
    refine wpAnyH_take (i := 0) (oi := { dst := some 6, op := _, type := _, pos := _, after := _, guard := _ }) (v := ?_) rfl (by kernel_rfl) (by kernel_rfl) (by kernel_rfl) (fun _ _ _ h => h) (Or.inl ⟨by rfl, ?_⟩) (by assumption) ?_
    rotate_left
    · intro w hSw
      try dsimp only at hSw
      go_simp
      try with_reducible rfl
    try simp only [Act.put, List.setIfInBounds_toArray, List.set_cons_zero, List.set_cons_succ]
    refine wpAnyH_take (i := 1) (oi := { dst := some 7, op := _, type := _, pos := _, after := _, guard := _ }) (v := ?_) rfl (by kernel_rfl) (by kernel_rfl) (by kernel_rfl) (fun _ _ _ h => h) (Or.inl ⟨by rfl, ?_⟩) (by assumption) ?_
    rotate_left
    · intro w hSw
      try dsimp only at hSw
      go_simp
      try with_reducible rfl
    try simp only [Act.put, List.setIfInBounds_toArray, List.set_cons_zero, List.set_cons_succ]
    refine wpAnyH_take (i := 2) (oi := { dst := some 8, op := _, type := _, pos := _, after := _, guard := _ }) (v := ?_) rfl (by kernel_rfl) (by kernel_rfl) (by kernel_rfl) (fun _ _ _ h => h) (Or.inl ⟨by rfl, ?_⟩) (by assumption) ?_
    rotate_left
    · intro w hSw
      try dsimp only at hSw
      go_simp
      try with_reducible rfl
    try simp only [Act.put, List.setIfInBounds_toArray, List.set_cons_zero, List.set_cons_succ]
    refine wpAnyH_take (i := 3) (oi := { dst := some 9, op := _, type := _, pos := _, after := _, guard := _ }) (v := ?_) rfl (by kernel_rfl) (by kernel_rfl) (by kernel_rfl) (fun _ _ _ h => h) (Or.inl ⟨by rfl, ?_⟩) (by assumption) ?_
    rotate_left
    · intro w hSw
      try dsimp only at hSw
      go_simp
      try with_reducible rfl
    try simp only [Act.put, List.setIfInBounds_toArray, List.set_cons_zero, List.set_cons_succ]
    refine wpAnyH_take (i := 4) (oi := { dst := some 10, op := _, type := _, pos := _, after := _, guard := _ }) (v := ?_) rfl (by kernel_rfl) (by kernel_rfl) (by kernel_rfl) (fun _ _ _ h => h) (Or.inl ⟨by rfl, ?_⟩) (by assumption) ?_
    rotate_left
    · intro w hSw
      try dsimp only at hSw
      go_simp
      try with_reducible rfl
    try simp only [Act.put, List.setIfInBounds_toArray, List.set_cons_zero, List.set_cons_succ]
    refine wpAnyH_take (i := 5) (oi := { dst := some 11, op := _, type := _, pos := _, after := _, guard := _ }) (v := ?_) rfl (by kernel_rfl) (by kernel_rfl) (by kernel_rfl) (fun _ _ _ h => h) (Or.inl ⟨by rfl, ?_⟩) (by assumption) ?_
    rotate_left
    · intro w hSw
      try dsimp only at hSw
      go_simp
      try with_reducible rfl
    try simp only [Act.put, List.setIfInBounds_toArray, List.set_cons_zero, List.set_cons_succ]
    refine wpAnyH_take (i := 6) (oi := { dst := some 12, op := _, type := _, pos := _, after := _, guard := _ }) (v := ?_) rfl (by kernel_rfl) (by kernel_rfl) (by kernel_rfl) (fun _ _ _ h => h) (Or.inl ⟨by rfl, ?_⟩) (by assumption) ?_
    rotate_left
    · intro w hSw
      try dsimp only at hSw
      go_simp
      try with_reducible rfl
    try simp only [Act.put, List.setIfInBounds_toArray, List.set_cons_zero, List.set_cons_succ]
    refine wpAnyH_take (i := 7) (oi := { dst := some 13, op := _, type := _, pos := _, after := _, guard := _ }) (v := ?_) rfl (by kernel_rfl) (by kernel_rfl) (by kernel_rfl) (fun _ _ _ h => h) (Or.inl ⟨by rfl, ?_⟩) (by assumption) ?_
    rotate_left
    · intro w hSw
      try dsimp only at hSw
      go_simp
      try with_reducible rfl
    try simp only [Act.put, List.setIfInBounds_toArray, List.set_cons_zero, List.set_cons_succ]
    refine wpAnyH_take (i := 8) (oi := { dst := some 14, op := _, type := _, pos := _, after := _, guard := _ }) (v := ?_) rfl (by kernel_rfl) (by kernel_rfl) (by kernel_rfl) (fun _ _ _ h => h) (Or.inl ⟨by rfl, ?_⟩) (by assumption) ?_
    rotate_left
    · intro w hSw
      try dsimp only at hSw
      go_simp
      try with_reducible rfl
    try simp only [Act.put, List.setIfInBounds_toArray, List.set_cons_zero, List.set_cons_succ]
    refine wpAnyH_ready (rs := [9]) (by kernel_rfl) (by simp) ?_
    refine AllReadyH.cons rfl (fun K hK => ?_) AllReadyH.nil
    go_simp
    refine (rbytes_s none 0 0 (List.take 0 ([] : List ByteArray)) _ (HS.out.below HB.out) HZ.out (by omega)).mono ?_
    rintro e w1 ⟨rfl, hb⟩
    have HB := Lib.hid (HB.out.trans (hb.mono HB.out.size))
    clear hb
    go_wp2_with fail
    refine hK.out _ _ ?_ (fun hHeld => ?_)
    · exact HSt.out _ HB.out
    clear hK K
    try simp only [Act.put, List.setIfInBounds_toArray, List.set_cons_zero, List.set_cons_succ]
    refine wpAnyH_take (i := 10) (oi := { dst := some 2, op := _, type := _, pos := _, after := _, guard := _ }) (v := ?_) rfl (by kernel_rfl) (by kernel_rfl) (by kernel_rfl) (fun _ _ _ h => h) (Or.inl ⟨by rfl, ?_⟩) (by assumption) ?_
    rotate_left
    · intro w hSw
      try dsimp only at hSw
      go_simp
      try with_reducible rfl
    try simp only [Act.put, List.setIfInBounds_toArray, List.set_cons_zero, List.set_cons_succ]
    refine wpAnyH_done (by kernel_rfl) ?_ _
    go_wp2_with fail
    go_ret
    exact ⟨rfl, HB.out⟩
  · injection e1 with e1 _ e3
    subst e1 e3
    have HS := Lib.hid (hs.upto d h.dl)
    clear h hs
    go_enter Tryd.func23, Tryd.ntmps23
    go_wp2_with fail
    refine HM.out.mono ?_
    rintro e w' ⟨rfl, rfl⟩
    go_wp2_with fail
    have HB := Lib.hid (Below.refl w.heap.size w).drew
    have S0 := HSt.out _ HB.out
    refine wp_region_held_drew (S := fun V => V.cell? ⟨b, 1, none⟩ = some (.slice (some ⟨g, 0, none⟩) l.length cap) ∧ V.cell? ⟨b, 2, none⟩ = some (.int .i64 d) ∧ Hid (Below w.heap.size w V)) (by kernel_rfl) (S0) (fun hS => ?_)
    refine wpAnyH_take (i := 0) (oi := { dst := some 6, op := _, type := _, pos := _, after := _, guard := _ }) (v := ?_) rfl (by kernel_rfl) (by kernel_rfl) (by kernel_rfl) (fun _ _ _ h => h) (Or.inl ⟨by rfl, ?_⟩) (by assumption) ?_
    rotate_left
    · intro w hSw
      try dsimp only at hSw
      go_simp
      try with_reducible rfl
    try simp only [Act.put, List.setIfInBounds_toArray, List.set_cons_zero, List.set_cons_succ]
    refine wpAnyH_take (i := 1) (oi := { dst := some 7, op := _, type := _, pos := _, after := _, guard := _ }) (v := ?_) rfl (by kernel_rfl) (by kernel_rfl) (by kernel_rfl) (fun _ _ _ h => h) (Or.inl ⟨by rfl, ?_⟩) (by assumption) ?_
    rotate_left
    · intro w hSw
      try dsimp only at hSw
      go_simp
      try with_reducible rfl
    try simp only [Act.put, List.setIfInBounds_toArray, List.set_cons_zero, List.set_cons_succ]
    refine wpAnyH_take (i := 2) (oi := { dst := some 8, op := _, type := _, pos := _, after := _, guard := _ }) (v := ?_) rfl (by kernel_rfl) (by kernel_rfl) (by kernel_rfl) (fun _ _ _ h => h) (Or.inl ⟨by rfl, ?_⟩) (by assumption) ?_
    rotate_left
    · intro w hSw
      try dsimp only at hSw
      go_simp
      try with_reducible rfl
    try simp only [Act.put, List.setIfInBounds_toArray, List.set_cons_zero, List.set_cons_succ]
    refine wpAnyH_take (i := 3) (oi := { dst := some 9, op := _, type := _, pos := _, after := _, guard := _ }) (v := ?_) rfl (by kernel_rfl) (by kernel_rfl) (by kernel_rfl) (fun _ _ _ h => h) (Or.inl ⟨by rfl, ?_⟩) (by assumption) ?_
    rotate_left
    · intro w hSw
      try dsimp only at hSw
      go_simp
      try with_reducible rfl
    try simp only [Act.put, List.setIfInBounds_toArray, List.set_cons_zero, List.set_cons_succ]
    refine wpAnyH_take (i := 4) (oi := { dst := some 10, op := _, type := _, pos := _, after := _, guard := _ }) (v := ?_) rfl (by kernel_rfl) (by kernel_rfl) (by kernel_rfl) (fun _ _ _ h => h) (Or.inl ⟨by rfl, ?_⟩) (by assumption) ?_
    rotate_left
    · intro w hSw
      try dsimp only at hSw
      go_simp
      try with_reducible rfl
    try simp only [Act.put, List.setIfInBounds_toArray, List.set_cons_zero, List.set_cons_succ]
    refine wpAnyH_take (i := 5) (oi := { dst := some 11, op := _, type := _, pos := _, after := _, guard := _ }) (v := ?_) rfl (by kernel_rfl) (by kernel_rfl) (by kernel_rfl) (fun _ _ _ h => h) (Or.inl ⟨by rfl, ?_⟩) (by assumption) ?_
    rotate_left
    · intro w hSw
      try dsimp only at hSw
      go_simp
      try with_reducible rfl
    try simp only [Act.put, List.setIfInBounds_toArray, List.set_cons_zero, List.set_cons_succ]
    refine wpAnyH_take (i := 6) (oi := { dst := some 12, op := _, type := _, pos := _, after := _, guard := _ }) (v := ?_) rfl (by kernel_rfl) (by kernel_rfl) (by kernel_rfl) (fun _ _ _ h => h) (Or.inl ⟨by rfl, ?_⟩) (by assumption) ?_
    rotate_left
    · intro w hSw
      try dsimp only at hSw
      go_simp
      try with_reducible rfl
    try simp only [Act.put, List.setIfInBounds_toArray, List.set_cons_zero, List.set_cons_succ]
    refine wpAnyH_take (i := 7) (oi := { dst := some 13, op := _, type := _, pos := _, after := _, guard := _ }) (v := ?_) rfl (by kernel_rfl) (by kernel_rfl) (by kernel_rfl) (fun _ _ _ h => h) (Or.inl ⟨by rfl, ?_⟩) (by assumption) ?_
    rotate_left
    · intro w hSw
      try dsimp only at hSw
      go_simp
      try with_reducible rfl
    try simp only [Act.put, List.setIfInBounds_toArray, List.set_cons_zero, List.set_cons_succ]
    refine wpAnyH_take (i := 8) (oi := { dst := some 14, op := _, type := _, pos := _, after := _, guard := _ }) (v := ?_) rfl (by kernel_rfl) (by kernel_rfl) (by kernel_rfl) (fun _ _ _ h => h) (Or.inl ⟨by rfl, ?_⟩) (by assumption) ?_
    rotate_left
    · intro w hSw
      try dsimp only at hSw
      go_simp
      try with_reducible rfl
    try simp only [Act.put, List.setIfInBounds_toArray, List.set_cons_zero, List.set_cons_succ]
    refine wpAnyH_ready (rs := [9]) (by kernel_rfl) (by simp) ?_
    refine AllReadyH.cons rfl (fun K hK => ?_) AllReadyH.nil
    go_simp
    refine (rbytes_s (some ⟨g, 0, none⟩) d cap (l.take d) _ (HS.out.below HB.out) HZ.out (by omega)).mono ?_
    rintro e w1 ⟨rfl, hb⟩
    have HB := Lib.hid (HB.out.trans (hb.mono HB.out.size))
    clear hb
    go_wp2_with fail
    refine hK.out _ _ ?_ (fun hHeld => ?_)
    · exact HSt.out _ HB.out
    clear hK K
    try simp only [Act.put, List.setIfInBounds_toArray, List.set_cons_zero, List.set_cons_succ]
    refine wpAnyH_take (i := 10) (oi := { dst := some 2, op := _, type := _, pos := _, after := _, guard := _ }) (v := ?_) rfl (by kernel_rfl) (by kernel_rfl) (by kernel_rfl) (fun _ _ _ h => h) (Or.inl ⟨by rfl, ?_⟩) (by assumption) ?_
    rotate_left
    · intro w hSw
      try dsimp only at hSw
      go_simp
      try with_reducible rfl
    try simp only [Act.put, List.setIfInBounds_toArray, List.set_cons_zero, List.set_cons_succ]
    refine wpAnyH_done (by kernel_rfl) ?_ _
    go_wp2_with fail
    go_ret
    exact ⟨rfl, HB.out⟩
theorem rappend_no (B b d : Nat) (l : List ByteArray) (v : Value) (r : ByteArray) (w : World) (h : RA w B b l d v) (hno : 4096 < r.size ∨ 4096 ≤ l.length) :
    Calls Tryd.prog 40 #[.pointer (some ⟨b, 0, none⟩), .string r] w fun e w' => e = .returned (.int .i64 3) ∧ w = w' := by
  obtain ⟨c0, c1, c2, f1, f2⟩ := h.flat
  have HM := Lib.hid (rmade_j h)
  obtain ⟨ao, cap, hv, hs⟩ := strs_own h.row rfl
  have hcn := h.cnt
  clear h hs
  subst hv
  rcases (show (4096 < r.size ∧ decide ((4096 : Int) < (r.size : Int)) = true) ∨ (¬ 4096 < r.size ∧ decide ((4096 : Int) < (r.size : Int)) = false ∧ 4096 ≤ l.length) by
    by_cases k : 4096 < r.size
    · exact .inl ⟨k, decide_eq_true (by omega)⟩
    · exact .inr ⟨k, decide_eq_false (by omega), by omega⟩) with ⟨k1, k2⟩ | ⟨k1, k2, k3⟩
  all_goals
    clear hno
    go_enter Tryd.func40, Tryd.ntmps40
    go_wp2_with fail
    refine HM.out.mono ?_
    rintro e w' ⟨rfl, rfl⟩
    go_wp2_with fail
    go_ret
    exact ⟨rfl, rfl⟩
theorem app_fresh {w wa w1 : World} {v0 v1 : Value} (hb : Below w.heap.size w wa) (hg : wa.grownBy w1 v0.ownBlock) (hat : v1.ownBlock = v0.ownBlock ∨ ∃ g, v1.ownBlock = some g ∧ wa.heap.size ≤ g) (h0 : ∃ g, v0.ownBlock = some g ∧ w.heap.size ≤ g) :
    Below w.heap.size w w1 ∧ ∃ g, v1.ownBlock = some g ∧ w.heap.size ≤ g := by
  obtain ⟨g0, e0, hg0⟩ := h0
  refine ⟨hb.grown hg hb.size (fun k hk => by rw [e0] at hk; injection hk with hk; omega), ?_⟩
  rcases hat with e | ⟨g, e, hl⟩
  · exact ⟨g0, e.trans e0, hg0⟩
  · exact ⟨g, e, Nat.le_trans hb.size hl⟩
/-- a row of the call's own, stored -/
theorem put_new {w w2 : World} {B b d n : Nat} {me : Value} {t : TypeId} {l l' : List ByteArray} {v v' : Value} (h : OA w B b me t l d v) (hb : Below w.heap.size w w2) (hf : ∃ g, v'.ownBlock = some g ∧ w.heap.size ≤ g)
    (hn : l'.length = n) (hrow : w2.ownsRow B 9 1 v' n (scells l')) (hd : d ≤ n) (hc : n ≤ 4096) (hs : ∀ r ∈ l', r.size ≤ 4096) :
    w2.cell? ⟨b, 1, none⟩ = some v ∧ w2.frozen? ⟨b, 1, none⟩ = false ∧ OA (w2.setCell ⟨b, 1, none⟩ v') B b me t l' d v' ∧ Mv b v v' w (w2.setCell ⟨b, 1, none⟩ v') := by
  subst hn
  have hblk : w2.heap[b]? = w.heap[b]? := hb.block b h.blk.big
  have hK : KbC w2 b (.cells #[me, v, .int .i64 d] t) := hblk.trans h.blk
  have P := h.put (Mv.of_fresh hb (.inr hf)) hblk hrow hd hc hs
  exact ⟨hK.cell rfl, hK.frz, P.1, P.2⟩
theorem put_fresh {w w1 w2 : World} {B b d n : Nat} {me : Value} {t : TypeId} {l : List ByteArray} {v v1 v' : Value} {r : ByteArray} (h : OA w B b me t l d v) (hb : Below w.heap.size w w1) (hf : ∃ g, v1.ownBlock = some g ∧ w.heap.size ≤ g)
    (hn : n = l.length) (hown : w2.ownsRow B 9 1 v' (n + 1) (scells l ++ [.string r])) (hg : w1.grownBy w2 v1.ownBlock) (hat : v'.ownBlock = v1.ownBlock ∨ ∃ g, v'.ownBlock = some g ∧ w1.heap.size ≤ g) (h1 : r.size ≤ 4096) (h2 : l.length < 4096) :
    w2.cell? ⟨b, 1, none⟩ = some v ∧ w2.frozen? ⟨b, 1, none⟩ = false ∧ OA (w2.setCell ⟨b, 1, none⟩ v') B b me t (l ++ [r]) d v' ∧ Mv b v v' w (w2.setCell ⟨b, 1, none⟩ v') := by
  subst hn
  obtain ⟨k1, k2⟩ := app_fresh hb hg hat hf
  rw [← scells_snoc] at hown
  exact put_new h k1 k2 (by simp) hown (by have := h.dl; omega) (by omega) (fun x hx => by
    rcases List.mem_append.1 hx with hx | hx
    · exact h.sm x hx
    · rw [List.mem_singleton.1 hx]; exact h1)
/-- an empty literal of the call's own -/
theorem own_empty (w : World) {B : Nat} (hB : B ≤ w.heap.size) : (w.alloc (.cells #[] 9)).ownsRow B 9 1 (.slice (some ⟨w.heap.size, 0, none⟩) 0 0) 0 [] :=
  World.ownsRow_lit w #[] 0 hB (by decide) rfl
set_option maxHeartbeats 4000000 in
theorem rappend_yes (B b d : Nat) (l : List ByteArray) (v : Value) (r : ByteArray) (w : World) (h : RA w B b l d v) (h1 : r.size ≤ 4096) (h2 : l.length < 4096) :
    Calls Tryd.prog 40 #[.pointer (some ⟨b, 0, none⟩), .string r] w fun e w' => e = .returned (.int .i64 0) ∧ ∃ v', RA w' B b (l ++ [r]) d v' ∧ Mv b v v' w w' := by
  obtain ⟨c0, c1, c2, f1, f2⟩ := h.flat
  have H := Lib.hid h
  have HM := Lib.hid (rmade_j h)
  obtain ⟨ao, cap, hv, hs⟩ := strs_own h.row rfl
  subst hv
  have HBs := Lib.hid (show B ≤ w.heap.size from Nat.le_trans h.low (Nat.le_of_lt h.blk.big))
  have HE := Lib.hid (own_empty w HBs.out)
  have HA := Lib.hid (box_below w (.cells #[] 9))
  have HR := Lib.hid (own_below h.row HA.out)
  have c3 : (w.alloc (.cells #[] 9)).cell? ⟨b, 1, none⟩ = some (.slice ao l.length cap) := (h.step HA.out).flat.2.1
  have HBa := Lib.hid (Nat.le_trans HBs.out HA.out.size)
  clear h hs
  have k1 : ¬ 4096 < r.size := by omega
  have k2 : decide ((4096 : Int) < (r.size : Int)) = false := decide_eq_false (by omega)
  have k3 : decide ((4096 : Int) ≤ (l.length : Int)) = false := decide_eq_false (by omega)
  have HN := Lib.hid (show l.length + 1 ≤ 1000000000 by omega)
  have HN0 := Lib.hid (show 0 + l.length ≤ 1000000000 by omega)
  go_enter Tryd.func40, Tryd.ntmps40
  go_wp2_with fail
  refine HM.out.mono ?_
  rintro e w' ⟨rfl, rfl⟩
  go_wp2_with (first | (at_builtin; refine app_j _ HE.out (.tmp 20) (.tmp 24) HR.out ?_ ?_ ?_ ?_ ?_ ?_ ?_; exact rfl; exact rfl; exact rfl; exact rfl; exact HN0.out; exact HBa.out; intro v1 w1 hown hg hat; rw [Nat.zero_add, List.nil_append] at hown; obtain ⟨vo, vc, hv1⟩ := row_slice hown; subst hv1; have H1 := Lib.hid (app_fresh HA.out hg.out hat.out ⟨_, rfl, Nat.le_refl _⟩); have HOw1 := Lib.hid hown; have HB1 := Lib.hid (Nat.le_trans HBa.out hg.out.size); clear hown hg hat) | (at_builtin; refine push_j _ HOw1.out (.tmp 25) (.tmp 27) r ?_ ?_ ?_ ?_ ?_ ?_ ?_; exact rfl; exact rfl; exact rfl; exact rfl; exact HN.out; exact HB1.out; intro v' w2 hown hg hat; obtain ⟨g', cap', hv', _⟩ := hown.form (by omega); subst hv'; have HP := Lib.hid (put_fresh H.out H1.out.1 H1.out.2 rfl hown hg.out hat.out h1 h2); obtain ⟨d1, d2, P⟩ := HP.out; have HP := Lib.hid P; clear P hown hg hat))
  go_ret
  exact ⟨rfl, _, HP.out.1, HP.out.2⟩

end Go.Proofs.YtafecnaeoeanmaaDoor
