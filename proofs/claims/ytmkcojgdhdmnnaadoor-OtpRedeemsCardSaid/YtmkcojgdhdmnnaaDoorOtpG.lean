/-
  Contracts of Redeem on both sides. Condition: at most 1000 strings.
-/
import Derived.Test.YtmkcojgdhdmnnaaDoorOtpF
import Derived.Test.YtmkcojgdhdmnnaaDoorKbC
import Derived.Deep.RegionHeld3
set_option maxRecDepth 100000
set_option linter.unusedVariables false
set_option linter.unusedSimpArgs false
set_option linter.unnecessarySimpa false
namespace Go.Proofs.YtmkcojgdhdmnnaaDoor
open Go.RowKit Go.PlainAid

theorem strs_take {w : World} {b off n cap : Nat} {l : List ByteArray} (h : StrsAt w (some ⟨b, off, none⟩) n cap l) {i : Nat} (hi : i ≤ n) : StrsAt w (some ⟨b, off, none⟩) i cap (l.take i) := by
  obtain ⟨h1, h2, h3, h4⟩ := h
  refine ⟨by rw [List.length_take]; omega, by omega, h3, fun hn => ?_⟩
  obtain ⟨b', off', e, hs⟩ := h4 (by omega)
  cases e
  refine ⟨b, off, rfl, hs.1, fun j hj => ?_⟩
  rw [List.length_take] at hj
  rw [hs.2 j (by omega), part_get (show j < l.length by omega), part_get (show j < (l.take i).length by rw [List.length_take]; omega), List.getElem_take]
theorem strs_drop {w : World} {b off n cap : Nat} {l : List ByteArray} (h : StrsAt w (some ⟨b, off, none⟩) n cap l) {i m c : Nat} (hi : i + m = n) (hc : i + c = cap) : StrsAt w (some ⟨b, off + i, none⟩) m c (l.drop i) := by
  obtain ⟨h1, h2, h3, h4⟩ := h
  refine ⟨by rw [List.length_drop]; omega, by omega, by omega, fun hn => ?_⟩
  obtain ⟨b', off', e, hs⟩ := h4 (by omega)
  cases e
  refine ⟨b, off + i, rfl, hs.1, fun j hj => ?_⟩
  rw [List.length_drop] at hj
  rw [show off + i + j = off + (i + j) by omega, hs.2 (i + j) (by omega), part_get (show i + j < l.length by omega), part_get (show j < (l.drop i).length by rw [List.length_drop]; omega), List.getElem_drop]
theorem strs_none (w : World) (ad : Addr) {l : List ByteArray} {i : Nat} (h : l.length ≤ i) : StrsAt w (some ad) 0 0 (l.drop i) :=
  ⟨by rw [List.length_drop]; omega, Nat.le_refl _, by unfold maxLen; omega, fun h => absurd h (Nat.lt_irrefl _)⟩
theorem redR_len {l : List ByteArray} {c : ByteArray} {k : Nat} (h : k < l.length) : (l.take k ++ l.drop (k + 1)).length = k + (l.length - (k + 1)) := by
  rw [List.length_append, List.length_take, List.length_drop]; omega
theorem ix_cases (l : List ByteArray) (c : ByteArray) : (hasB l c = false ∧ ixR l c = -1 ∧ redR l c = ([], 6)) ∨ ∃ k : Nat, k < l.length ∧ ixR l c = (k : Int) ∧ redR l c = (l.take k ++ l.drop (k + 1), 0) := by
  cases hh : hasB l c
  · refine .inl ⟨rfl, ?_, ?_⟩
    · unfold ixR; rw [hh, if_neg (by decide)]
    · unfold redR; rw [hh, if_neg (by decide)]
  · have hm := hasB_iff.1 hh
    have : ∃ k, k < l.length ∧ ixN c l = k ∧ partAt l k = c ∧ ∀ j, j < k → partAt l j ≠ c := by
      clear hh
      induction l with
      | nil => cases hm
      | cons x l ih =>
        by_cases e : x = c
        · exact ⟨0, by simp, by unfold ixN; rw [if_pos e], e, fun j hj => absurd hj (Nat.not_lt_zero _)⟩
        · have : c ∈ l := by
            rcases List.mem_cons.1 hm with q | q
            · exact absurd q.symm e
            · exact q
          obtain ⟨k, k1, k2, k3, k4⟩ := ih this
          refine ⟨k + 1, by simpa using k1, by unfold ixN; rw [if_neg e, k2], k3, fun j hj => ?_⟩
          rcases j with _ | j
          · exact e
          · exact k4 j (by omega)
    obtain ⟨k, k1, k2, k3, k4⟩ := this
    exact .inr ⟨k, k1, by unfold ixR; rw [hh, if_pos rfl, k2], redR_at k1 k3 k4⟩
set_option maxHeartbeats 8000000 in
theorem redeem_k (ao : Option Addr) (n cap : Nat) (l : List ByteArray) (c : ByteArray) (L : List ByteArray) (z : Int) (w : World) (h : StrsAt w ao n cap l) (hn : n ≤ 1000) (hx : redR l c = (L, z)) :
    Calls Tryd.prog 23 #[.slice ao n cap, .string c] w fun e w' => ∃ bo dap, e = .returned (.tuple #[.slice bo L.length dap, .int .i64 z]) ∧ StrsAt w' bo L.length dap L ∧ Below w.heap.size w w' := by
  have H := Lib.hid h
  rcases ix_cases l c with ⟨_, h1, h2⟩ | ⟨k, hk, h1, h2⟩
  · rw [h2] at hx
    obtain ⟨rfl, rfl⟩ := Prod.mk.inj hx
    have HI := Lib.hid h1
    clear hx h1 h2
    go_enter Tryd.func23, Tryd.ntmps23
    go_wp2_with fail
    refine (index_k ao n cap l c (-1) _ H.out HI.out).mono ?_
    rintro e w' ⟨rfl, rfl⟩
    go_wp2_with fail
    go_ret2
    exact ⟨none, 0, rfl, ⟨rfl, Nat.le_refl _, by unfold maxLen; omega, fun h => absurd h (Nat.lt_irrefl _)⟩, Below.refl _ _⟩
  · rw [h2] at hx
    obtain ⟨e1, rfl⟩ := Prod.mk.inj hx
    have HI := Lib.hid h1
    have hl := h.1
    have hnc := h.2.1
    have hcm := h.2.2.1
    unfold maxLen at hcm
    subst hl
    obtain ⟨b, off, rfl, _⟩ := H.out.at (by omega)
    have HLn := Lib.hid (show L.length = k + (l.length - (k + 1)) by rw [← e1]; exact redR_len (c := c) hk)
    have HE := Lib.hid e1
    clear hx h1 h2 e1 h
    have kI : (k : Int) < (l.length : Int) := by omega
    have kc : (k : Int) + 1 ≤ (cap : Int) := by omega
    have q1 : (k : Int) ≤ (cap : Int) := by omega
    have q2 : (k : Int) + 1 ≤ (l.length : Int) := by omega
    have q3 : ¬ (k : Int) < 0 := by omega
    obtain ⟨m, hm⟩ : ∃ m, k + 1 + m = l.length := ⟨l.length - (k + 1), by omega⟩
    obtain ⟨d, hd⟩ : ∃ d, k + 1 + d = cap := ⟨cap - (k + 1), by omega⟩
    have HD := Lib.hid (strs_drop H.out hm hd)
    have HT := Lib.hid (strs_take H.out (i := k) (by omega))
    have q4 : 0 ≤ (k : Int) + 1 := by omega
    have q5 : (k : Int) ≤ (k : Int) + 1 := by omega
    by_cases hce : cap = k + 1
    · obtain rfl := hce
      have n0 : l.length - (k + 1) = 0 := by omega
      have HD := Lib.hid (strs_none w ⟨b, off, none⟩ (l := l) (i := k + 1) (by omega))
      have wk : IntKind.i64.wrap ((k : Int) + 1) = (k : Int) + 1 := IntWalk.i64_in _ (by omega)
      go_enter Tryd.func23, Tryd.ntmps23
      go_wp2_with fail
      refine (index_k _ _ (k + 1) l c k _ H.out HI.out).mono ?_
      rintro e w' ⟨rfl, rfl⟩
      go_wp2_with fail
      have HY := Lib.hid (show Below w.heap.size w (w.alloc (twS ⟨b, off, none⟩ ⟨b, off, none⟩ k (k + 1) 0 0)).drew from (box_below w _).drew)
      have HK := Lib.hid (show KbC (w.alloc (twS ⟨b, off, none⟩ ⟨b, off, none⟩ k (k + 1) 0 0)).drew w.heap.size (twS ⟨b, off, none⟩ ⟨b, off, none⟩ k (k + 1) 0 0) from kbc_new w _)
      have HT1 := Lib.hid (HT.out.below HY.out)
      have HD1 := Lib.hid (HD.out.below HY.out)
      unfold twS at HY HK
      refine wp_region_held_drew (S := fun _ => True) (by kernel_rfl) (trivial) (fun hS => ?_)
      refine wpAnyH_take (i := 0) (oi := { dst := some 12, op := _, type := _, pos := _, after := _, guard := _ }) (v := ?_) rfl (by kernel_rfl) (by kernel_rfl) (by kernel_rfl) (fun _ _ _ h => h) (Or.inl ⟨by rfl, ?_⟩) (by assumption) ?_
      rotate_left
      · intro w hSw
        try dsimp only at hSw
        go_simp
        try with_reducible rfl
      try simp only [Act.put, List.setIfInBounds_toArray, List.set_cons_zero, List.set_cons_succ]
      refine wpAnyH_take (i := 1) (oi := { dst := some 13, op := _, type := _, pos := _, after := _, guard := _ }) (v := ?_) rfl (by kernel_rfl) (by kernel_rfl) (by kernel_rfl) (fun _ _ _ h => h) (Or.inl ⟨by rfl, ?_⟩) (by assumption) ?_
      rotate_left
      · intro w hSw
        try dsimp only at hSw
        go_simp
        try with_reducible rfl
      try simp only [Act.put, List.setIfInBounds_toArray, List.set_cons_zero, List.set_cons_succ]
      refine wpAnyH_take (i := 2) (oi := { dst := some 14, op := _, type := _, pos := _, after := _, guard := _ }) (v := ?_) rfl (by kernel_rfl) (by kernel_rfl) (by kernel_rfl) (fun _ _ _ h => h) (Or.inl ⟨by rfl, ?_⟩) (by assumption) ?_
      rotate_left
      · intro w hSw
        try dsimp only at hSw
        go_simp
        try with_reducible rfl
      try simp only [Act.put, List.setIfInBounds_toArray, List.set_cons_zero, List.set_cons_succ]
      refine wpAnyH_take (i := 3) (oi := { dst := some 15, op := _, type := _, pos := _, after := _, guard := _ }) (v := ?_) rfl (by kernel_rfl) (by kernel_rfl) (by kernel_rfl) (fun _ _ _ h => h) (Or.inl ⟨by rfl, ?_⟩) (by assumption) ?_
      rotate_left
      · intro w hSw
        try dsimp only at hSw
        go_simp
        try with_reducible rfl
      try simp only [Act.put, List.setIfInBounds_toArray, List.set_cons_zero, List.set_cons_succ]
      refine wpAnyH_take (i := 4) (oi := { dst := some 16, op := _, type := _, pos := _, after := _, guard := _ }) (v := ?_) rfl (by kernel_rfl) (by kernel_rfl) (by kernel_rfl) (fun _ _ _ h => h) (Or.inl ⟨by rfl, ?_⟩) (by assumption) ?_
      rotate_left
      · intro w hSw
        try dsimp only at hSw
        go_simp
        try with_reducible rfl
      try simp only [Act.put, List.setIfInBounds_toArray, List.set_cons_zero, List.set_cons_succ]
      refine wpAnyH_take (i := 5) (oi := { dst := some 17, op := _, type := _, pos := _, after := _, guard := _ }) (v := ?_) rfl (by kernel_rfl) (by kernel_rfl) (by kernel_rfl) (fun _ _ _ h => h) (Or.inl ⟨by rfl, ?_⟩) (by assumption) ?_
      rotate_left
      · intro w hSw
        try dsimp only at hSw
        go_simp
        try with_reducible rfl
      try simp only [Act.put, List.setIfInBounds_toArray, List.set_cons_zero, List.set_cons_succ]
      refine wpAnyH_take (i := 6) (oi := { dst := some 18, op := _, type := _, pos := _, after := _, guard := _ }) (v := ?_) rfl (by kernel_rfl) (by kernel_rfl) (by kernel_rfl) (fun _ _ _ h => h) (Or.inl ⟨by rfl, ?_⟩) (by assumption) ?_
      rotate_left
      · intro w hSw
        try dsimp only at hSw
        go_simp
        try with_reducible rfl
      try simp only [Act.put, List.setIfInBounds_toArray, List.set_cons_zero, List.set_cons_succ]
      refine wpAnyH_ready (rs := [7]) (by kernel_rfl) (by simp) ?_
      refine AllReadyH.cons rfl (fun K hK => ?_) AllReadyH.nil
      go_simp
      refine hK.out _ _ ?_ (fun hHeld => ?_)
      · exact trivial
      clear hK K
      skip
      try simp only [Act.put, List.setIfInBounds_toArray, List.set_cons_zero, List.set_cons_succ]
      refine wpAnyH_ready (rs := [8]) (by kernel_rfl) (by simp) ?_
      refine AllReadyH.cons rfl (fun K hK => ?_) AllReadyH.nil
      go_simp
      refine (concat_s w.heap.size ⟨b, off, none⟩ ⟨b, off, none⟩ k 0 (k + 1) 0 _ _ _ HK.out HT1.out HD1.out (by omega) (by omega)).mono ?_
      rintro e w1 ⟨xo, xc, rfl, hat, hb⟩
      have HA := Lib.hid hat
      have HB := Lib.hid (HY.out.trans (hb.mono HY.out.size))
      clear hat hb
      go_wp2_with fail
      refine hK.out _ _ ?_ (fun hHeld => ?_)
      · exact trivial
      clear hK K
      try simp only [Act.put, List.setIfInBounds_toArray, List.set_cons_zero, List.set_cons_succ]
      refine wpAnyH_take (i := 9) (oi := { dst := some 4, op := _, type := _, pos := _, after := _, guard := _ }) (v := ?_) rfl (by kernel_rfl) (by kernel_rfl) (by kernel_rfl) (fun _ _ _ h => h) (Or.inl ⟨by rfl, ?_⟩) (by assumption) ?_
      rotate_left
      · intro w hSw
        try dsimp only at hSw
        go_simp
        try with_reducible rfl
      try simp only [Act.put, List.setIfInBounds_toArray, List.set_cons_zero, List.set_cons_succ]
      refine wpAnyH_take (i := 10) (oi := { dst := some 5, op := _, type := _, pos := _, after := _, guard := _ }) (v := ?_) rfl (by kernel_rfl) (by kernel_rfl) (by kernel_rfl) (fun _ _ _ h => h) (Or.inl ⟨by rfl, ?_⟩) (by assumption) ?_
      rotate_left
      · intro w hSw
        try dsimp only at hSw
        go_simp
        try with_reducible rfl
      try simp only [Act.put, List.setIfInBounds_toArray, List.set_cons_zero, List.set_cons_succ]
      refine wpAnyH_done (by kernel_rfl) ?_ _
      go_wp2_with fail
      go_ret2
      refine ⟨xo, xc, ?_, ?_, HB.out⟩
      · rw [HLn.out, show l.length - (k + 1) = 0 by omega]; rfl
      · have := HA.out
        rw [HE.out] at this
        rw [HLn.out, show l.length - (k + 1) = 0 by omega]; exact this
    · have mN : l.length - (k + 1) = m := by omega
      have dN : cap - (k + 1) = d := by omega
      have wk : IntKind.i64.wrap ((k : Int) + 1) = (k : Int) + 1 := IntWalk.i64_in _ (by omega)
      go_enter Tryd.func23, Tryd.ntmps23
      go_wp2_with fail
      refine (index_k _ _ cap l c k _ H.out HI.out).mono ?_
      rintro e w' ⟨rfl, rfl⟩
      go_wp2_with fail
      have HY := Lib.hid (show Below w.heap.size w (w.alloc (twS ⟨b, off, none⟩ ⟨b, off + (k + 1), none⟩ k cap m d)).drew from (box_below w _).drew)
      have HK := Lib.hid (show KbC (w.alloc (twS ⟨b, off, none⟩ ⟨b, off + (k + 1), none⟩ k cap m d)).drew w.heap.size (twS ⟨b, off, none⟩ ⟨b, off + (k + 1), none⟩ k cap m d) from kbc_new w _)
      have HT1 := Lib.hid (HT.out.below HY.out)
      have HD1 := Lib.hid (HD.out.below HY.out)
      unfold twS at HY HK
      refine wp_region_held_drew (S := fun _ => True) (by kernel_rfl) (trivial) (fun hS => ?_)
      refine wpAnyH_take (i := 0) (oi := { dst := some 12, op := _, type := _, pos := _, after := _, guard := _ }) (v := ?_) rfl (by kernel_rfl) (by kernel_rfl) (by kernel_rfl) (fun _ _ _ h => h) (Or.inl ⟨by rfl, ?_⟩) (by assumption) ?_
      rotate_left
      · intro w hSw
        try dsimp only at hSw
        go_simp
        try with_reducible rfl
      try simp only [Act.put, List.setIfInBounds_toArray, List.set_cons_zero, List.set_cons_succ]
      refine wpAnyH_take (i := 1) (oi := { dst := some 13, op := _, type := _, pos := _, after := _, guard := _ }) (v := ?_) rfl (by kernel_rfl) (by kernel_rfl) (by kernel_rfl) (fun _ _ _ h => h) (Or.inl ⟨by rfl, ?_⟩) (by assumption) ?_
      rotate_left
      · intro w hSw
        try dsimp only at hSw
        go_simp
        try with_reducible rfl
      try simp only [Act.put, List.setIfInBounds_toArray, List.set_cons_zero, List.set_cons_succ]
      refine wpAnyH_take (i := 2) (oi := { dst := some 14, op := _, type := _, pos := _, after := _, guard := _ }) (v := ?_) rfl (by kernel_rfl) (by kernel_rfl) (by kernel_rfl) (fun _ _ _ h => h) (Or.inl ⟨by rfl, ?_⟩) (by assumption) ?_
      rotate_left
      · intro w hSw
        try dsimp only at hSw
        go_simp
        try with_reducible rfl
      try simp only [Act.put, List.setIfInBounds_toArray, List.set_cons_zero, List.set_cons_succ]
      refine wpAnyH_take (i := 3) (oi := { dst := some 15, op := _, type := _, pos := _, after := _, guard := _ }) (v := ?_) rfl (by kernel_rfl) (by kernel_rfl) (by kernel_rfl) (fun _ _ _ h => h) (Or.inl ⟨by rfl, ?_⟩) (by assumption) ?_
      rotate_left
      · intro w hSw
        try dsimp only at hSw
        go_simp
        try with_reducible rfl
      try simp only [Act.put, List.setIfInBounds_toArray, List.set_cons_zero, List.set_cons_succ]
      refine wpAnyH_take (i := 4) (oi := { dst := some 16, op := _, type := _, pos := _, after := _, guard := _ }) (v := ?_) rfl (by kernel_rfl) (by kernel_rfl) (by kernel_rfl) (fun _ _ _ h => h) (Or.inl ⟨by rfl, ?_⟩) (by assumption) ?_
      rotate_left
      · intro w hSw
        try dsimp only at hSw
        go_simp
        try with_reducible rfl
      try simp only [Act.put, List.setIfInBounds_toArray, List.set_cons_zero, List.set_cons_succ]
      refine wpAnyH_take (i := 5) (oi := { dst := some 17, op := _, type := _, pos := _, after := _, guard := _ }) (v := ?_) rfl (by kernel_rfl) (by kernel_rfl) (by kernel_rfl) (fun _ _ _ h => h) (Or.inl ⟨by rfl, ?_⟩) (by assumption) ?_
      rotate_left
      · intro w hSw
        try dsimp only at hSw
        go_simp
        try with_reducible rfl
      try simp only [Act.put, List.setIfInBounds_toArray, List.set_cons_zero, List.set_cons_succ]
      refine wpAnyH_take (i := 6) (oi := { dst := some 18, op := _, type := _, pos := _, after := _, guard := _ }) (v := ?_) rfl (by kernel_rfl) (by kernel_rfl) (by kernel_rfl) (fun _ _ _ h => h) (Or.inl ⟨by rfl, ?_⟩) (by assumption) ?_
      rotate_left
      · intro w hSw
        try dsimp only at hSw
        go_simp
        try with_reducible rfl
      try simp only [Act.put, List.setIfInBounds_toArray, List.set_cons_zero, List.set_cons_succ]
      refine wpAnyH_ready (rs := [7]) (by kernel_rfl) (by simp) ?_
      refine AllReadyH.cons rfl (fun K hK => ?_) AllReadyH.nil
      go_simp
      refine hK.out _ _ ?_ (fun hHeld => ?_)
      · exact trivial
      clear hK K
      skip
      try simp only [Act.put, List.setIfInBounds_toArray, List.set_cons_zero, List.set_cons_succ]
      refine wpAnyH_ready (rs := [8]) (by kernel_rfl) (by simp) ?_
      refine AllReadyH.cons rfl (fun K hK => ?_) AllReadyH.nil
      go_simp
      refine (concat_s w.heap.size ⟨b, off, none⟩ ⟨b, off + (k + 1), none⟩ k m cap d _ _ _ HK.out HT1.out HD1.out (by omega) (by omega)).mono ?_
      rintro e w1 ⟨xo, xc, rfl, hat, hb⟩
      have HA := Lib.hid hat
      have HB := Lib.hid (HY.out.trans (hb.mono HY.out.size))
      clear hat hb
      go_wp2_with fail
      refine hK.out _ _ ?_ (fun hHeld => ?_)
      · exact trivial
      clear hK K
      try simp only [Act.put, List.setIfInBounds_toArray, List.set_cons_zero, List.set_cons_succ]
      refine wpAnyH_take (i := 9) (oi := { dst := some 4, op := _, type := _, pos := _, after := _, guard := _ }) (v := ?_) rfl (by kernel_rfl) (by kernel_rfl) (by kernel_rfl) (fun _ _ _ h => h) (Or.inl ⟨by rfl, ?_⟩) (by assumption) ?_
      rotate_left
      · intro w hSw
        try dsimp only at hSw
        go_simp
        try with_reducible rfl
      try simp only [Act.put, List.setIfInBounds_toArray, List.set_cons_zero, List.set_cons_succ]
      refine wpAnyH_take (i := 10) (oi := { dst := some 5, op := _, type := _, pos := _, after := _, guard := _ }) (v := ?_) rfl (by kernel_rfl) (by kernel_rfl) (by kernel_rfl) (fun _ _ _ h => h) (Or.inl ⟨by rfl, ?_⟩) (by assumption) ?_
      rotate_left
      · intro w hSw
        try dsimp only at hSw
        go_simp
        try with_reducible rfl
      try simp only [Act.put, List.setIfInBounds_toArray, List.set_cons_zero, List.set_cons_succ]
      refine wpAnyH_done (by kernel_rfl) ?_ _
      go_wp2_with fail
      go_ret2
      refine ⟨xo, xc, ?_, ?_, HB.out⟩
      · rw [HLn.out, show l.length - (k + 1) = m by omega]; rfl
      · have := HA.out
        rw [HE.out] at this
        rw [HLn.out, show l.length - (k + 1) = m by omega]; exact this
set_option maxHeartbeats 8000000 in
theorem rredeem_k (ao : Option Addr) (n cap : Nat) (l : List ByteArray) (c : ByteArray) (L : List ByteArray) (z : Int) (w : World) (h : StrsAt w ao n cap l) (hn : n ≤ 1000) (hx : redR l c = (L, z)) :
    Calls Tryd.prog 24 #[.slice ao n cap, .string c] w fun e w' => ∃ bo dap, e = .returned (.tuple #[.slice bo L.length dap, .int .i64 z]) ∧ StrsAt w' bo L.length dap L ∧ Below w.heap.size w w' := by
  have H := Lib.hid h
  have hl := h.1
  have hnc := h.2.1
  have hcm := h.2.2.1
  unfold maxLen at hcm
  subst hl
  have HX := Lib.hid hx
  clear hx h
  go_enter Tryd.func24, Tryd.ntmps24
  go_wp2_with fail
  go_loopw [6] (fun i wr => ∃ k : Nat, k ≤ l.length ∧ i = .int .i64 k ∧ Hid (∀ j, j < k → partAt l j ≠ c) ∧ wr = w) (fun i _ => l.length - (intOf i).toNat)
  case atStart => exact ⟨0, Nat.zero_le _, rfl, Lib.hid fun j hj => absurd hj (Nat.not_lt_zero _), rfl⟩
  case round =>
    obtain ⟨k, hk, rfl, HN, rfl⟩ := hrel
    by_cases hlt : k < l.length
    · obtain ⟨b, off, rfl, hbw, hcells⟩ := H.out.at (by omega)
      have hcell := hcells _ (Below.refl _ _) k hlt
      clear hcells
      obtain ⟨p, hp⟩ : ∃ p, partAt l k = p := ⟨_, rfl⟩
      rw [hp] at hcell
      by_cases e : p = c
      · have d1 : (p.toList == c.toList) = true := by rw [str_eq]; exact decide_eq_true e
        have h2 := redR_at hlt (hp.trans e) HN.out
        have hx2 := HX.out
        rw [h2] at hx2
        obtain ⟨e1, rfl⟩ := Prod.mk.inj hx2
        have HLn := Lib.hid (show L.length = k + (l.length - (k + 1)) by rw [← e1]; exact redR_len (c := c) hlt)
        have HE := Lib.hid e1
        clear hx2 h2 e1 e hp
        have kI : (k : Int) < (l.length : Int) := by omega
        have kc : (k : Int) + 1 ≤ (cap : Int) := by omega
        have q1 : (k : Int) ≤ (cap : Int) := by omega
        have q2 : (k : Int) + 1 ≤ (l.length : Int) := by omega
        have q3 : ¬ (k : Int) < 0 := by omega
        have q4 : 0 ≤ (k : Int) + 1 := by omega
        have q5 : (k : Int) ≤ (k : Int) + 1 := by omega
        obtain ⟨m, hm⟩ : ∃ m, k + 1 + m = l.length := ⟨l.length - (k + 1), by omega⟩
        obtain ⟨d, hd⟩ : ∃ d, k + 1 + d = cap := ⟨cap - (k + 1), by omega⟩
        have wk : IntKind.i64.wrap ((k : Int) + 1) = (k : Int) + 1 := IntWalk.i64_in _ (by omega)
        have HD := Lib.hid (strs_drop H.out hm hd)
        have HT := Lib.hid (strs_take H.out (i := k) (by omega))
        have HN0 := Lib.hid (World.ownsRow_nil wr wr.heap.size 9 1)
        have HB := Lib.hid (Below.refl wr.heap.size wr)
        by_cases hce : cap = k + 1
        · obtain rfl := hce
          have n0 : l.length - (k + 1) = 0 := by omega
          have HD := Lib.hid (strs_none wr ⟨b, off, none⟩ (l := l) (i := k + 1) (by omega))
          go_wp2_with (first
            | (at_builtin; refine app_strs _ HN0.out (.tmp 20) (.tmp 23) ⟨b, off, none⟩ k (k + 1) (l.take k) ?_ ?_ ?_ ?_ ?_ ?_ ?_ ?_; exact rfl; exact rfl; exact rfl; exact rfl; exact HT.out; omega; exact HB.out.size; intro v2 w2 hown2 hb2; have HO2 := Lib.hid hown2; have HB2 := Lib.hid (HB.out.trans hb2); have HD2 := Lib.hid (HD.out.below hb2); clear hown2 hb2)
            | (at_builtin; refine app_strs _ HO2.out (.tmp 25) (.tmp 29) ⟨b, off, none⟩ 0 0 (l.drop (k + 1)) ?_ ?_ ?_ ?_ ?_ ?_ ?_ ?_; exact rfl; exact rfl; exact rfl; exact rfl; exact HD2.out; omega; exact HB2.out.size; intro v3 w3 hown3 hb3; have HB3 := Lib.hid (HB2.out.trans hb3); rw [List.nil_append, ← scells_app] at hown3; obtain ⟨xo, xc, hv3, hat⟩ := strs_own hown3 (by rw [redR_len (c := c) hlt]; omega); have HA3 := Lib.hid hat; subst hv3; clear hown3 hb3 hat))
          go_ret2
          refine ⟨xo, xc, ?_, ?_, HB3.out⟩
          · rw [HLn.out, show l.length - (k + 1) = 0 by omega]; first | rfl | (rw [Nat.zero_add]; rfl)
          · have := HA3.out
            rw [HE.out] at this
            rw [HLn.out, show l.length - (k + 1) = 0 by omega]; first | exact this | (rw [Nat.zero_add] at this; exact this)
        · have mN : l.length - (k + 1) = m := by omega
          have dN : cap - (k + 1) = d := by omega
          go_wp2_with (first
            | (at_builtin; refine app_strs _ HN0.out (.tmp 20) (.tmp 23) ⟨b, off, none⟩ k cap (l.take k) ?_ ?_ ?_ ?_ ?_ ?_ ?_ ?_; exact rfl; exact rfl; exact rfl; exact rfl; exact HT.out; omega; exact HB.out.size; intro v2 w2 hown2 hb2; have HO2 := Lib.hid hown2; have HB2 := Lib.hid (HB.out.trans hb2); have HD2 := Lib.hid (HD.out.below hb2); clear hown2 hb2)
            | (at_builtin; refine app_strs _ HO2.out (.tmp 25) (.tmp 29) ⟨b, off + (k + 1), none⟩ m d (l.drop (k + 1)) ?_ ?_ ?_ ?_ ?_ ?_ ?_ ?_; exact rfl; exact rfl; exact rfl; exact rfl; exact HD2.out; omega; exact HB2.out.size; intro v3 w3 hown3 hb3; have HB3 := Lib.hid (HB2.out.trans hb3); rw [List.nil_append, ← scells_app] at hown3; obtain ⟨xo, xc, hv3, hat⟩ := strs_own hown3 (by rw [redR_len (c := c) hlt]; omega); have HA3 := Lib.hid hat; subst hv3; clear hown3 hb3 hat))
          go_ret2
          refine ⟨xo, xc, ?_, ?_, HB3.out⟩
          · rw [HLn.out, show l.length - (k + 1) = m by omega]; first | rfl | (rw [Nat.zero_add]; rfl)
          · have := HA3.out
            rw [HE.out] at this
            rw [HLn.out, show l.length - (k + 1) = m by omega]; first | exact this | (rw [Nat.zero_add] at this; exact this)
      · have d1 : (p.toList == c.toList) = false := by rw [str_eq]; exact decide_eq_false e
        have HN1 : Hid (∀ j, j < k + 1 → partAt l j ≠ c) := Lib.hid fun j hj => if q : j = k then by rw [q, hp]; exact e else HN.out j (by omega)
        clear e hp
        go_wp2_with fail
        go_roundw
        case rel => exact ⟨k + 1, by omega, by go_num, HN1, (by first | trivial | rfl)⟩
        case measure => simp [intOf]; omega
    · obtain rfl : k = l.length := by omega
      have hx2 := HX.out
      rw [redR_no HN.out] at hx2
      obtain ⟨rfl, rfl⟩ := Prod.mk.inj hx2
      clear hx2
      go_wp2_with fail
      go_ret2
      exact ⟨none, 0, rfl, ⟨rfl, Nat.le_refl _, by unfold maxLen; omega, fun h => absurd h (Nat.lt_irrefl _)⟩, Below.refl _ _⟩
end Go.Proofs.YtmkcojgdhdmnnaaDoor
