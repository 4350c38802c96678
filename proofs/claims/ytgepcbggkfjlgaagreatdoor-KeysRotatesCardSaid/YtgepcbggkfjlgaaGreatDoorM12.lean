/-
  Texts of the schema layer and of those beneath it, joined: KeyI, KeyJ, KeyK. Conditions stand at each contract.
-/
import Derived.Lib.MinMax
import Derived.OwnWalk
import Derived.Test.YtgepcbggkfjlgaaGreatDoorM11

section
/-
  Contract of the specification's Same. Condition: none.
-/
set_option maxRecDepth 100000
set_option linter.unusedVariables false
set_option linter.unusedSimpArgs false
set_option linter.unnecessarySimpa false
namespace Go.Proofs.YtgepcbggkfjlgaaGreatDoor
open Go.RowKit Go.PlainAid

theorem ky_ite {α : Type} {x y : Ky} {A B : α} (h : x ≠ y) : (if x.id.toList = y.id.toList then if x.sec.toList = y.sec.toList then if x.sf = y.sf then if x.su = y.su then if x.af = y.af then if x.au = y.au then A else B else B else B else B else B else B) = B := by
  by_cases h0 : x.id.toList = y.id.toList
  · by_cases h1 : x.sec.toList = y.sec.toList
    · by_cases h2 : x.sf = y.sf
      · by_cases h3 : x.su = y.su
        · by_cases h4 : x.af = y.af
          · by_cases h5 : x.au = y.au
            · exfalso
              refine h (Ky.ext' ?_ ?_ h2 h3 h4 h5)
              · rw [← Lib.mk_data x.id, ← Lib.mk_data y.id, ← Lib.toList_data, ← Lib.toList_data, h0]
              · rw [← Lib.mk_data x.sec, ← Lib.mk_data y.sec, ← Lib.toList_data, ← Lib.toList_data, h1]
            · simp only [if_neg h5, if_pos h0, if_pos h1, if_pos h2, if_pos h3, if_pos h4]
          · simp only [if_neg h4, if_pos h0, if_pos h1, if_pos h2, if_pos h3]
        · simp only [if_neg h3, if_pos h0, if_pos h1, if_pos h2]
      · simp only [if_neg h2, if_pos h0, if_pos h1]
    · simp only [if_neg h1, if_pos h0]
  · exact if_neg h0
set_option maxHeartbeats 3000000 in
theorem same_k (ao : Option Addr) (n cap : Nat) (l : List Ky) (bo : Option Addr) (m dap : Nat) (q : List Ky) (r : Bool) (w : World) (h : KsAt w ao n cap l) (h' : KsAt w bo m dap q) (hr : decide (l = q) = r) :
    Calls Tryz.prog 21 #[.slice ao n cap, .slice bo m dap] w fun e w' => e = .returned (.bool r) ∧ Below w.heap.size w w' := by
  have H := Lib.hid h
  have H' := Lib.hid h'
  obtain ⟨h1, h2, h3, _, _⟩ := h
  obtain ⟨h4, h5, h6, _, _⟩ := h'
  subst h1 h4
  unfold maxLen at h3 h6
  have HR := Lib.hid hr
  clear hr
  by_cases hl : l.length = q.length
  · have d1 : (((l.length : Int) != (q.length : Int)) = false) := by rw [hl]; exact bne_self_eq_false _
    have hl2 : (l.length : Int) = (q.length : Int) := by rw [hl]
    go_enter Tryz.func21, Tryz.ntmps21
    go_wp2_with fail
    go_loopw [5] (fun iv wr => ∃ k : Nat, k ≤ l.length ∧ iv = .int .i64 k ∧ Hid (∀ j, j < k → kA l j = kA q j) ∧ Hid (Below w.heap.size w wr)) (fun iv _ => l.length - (intOf iv).toNat)
    case atStart => exact ⟨0, Nat.zero_le _, rfl, Lib.hid fun j hj => absurd hj (Nat.not_lt_zero _), Lib.hid (Below.refl _ _)⟩
    case round =>
      obtain ⟨k, hk, rfl, HN, HB⟩ := hrel
      by_cases hlt : k < l.length
      · have hlq : k < q.length := by omega
        obtain ⟨b, off, rfl, hsl⟩ := H.out.2.2.2.1 (by omega)
        obtain ⟨c, oft, rfl, hsm⟩ := H'.out.2.2.2.1 (by omega)
        have HSl := Lib.hid hsl
        have HSm := Lib.hid hsm
        obtain ⟨x, hx⟩ : ∃ x, kA l k = x := ⟨_, rfl⟩
        obtain ⟨y, hy⟩ : ∃ y, kA q k = y := ⟨_, rfl⟩
        have HCx : Hid (∀ V, Below w.heap.size w V → AtK V b (off + k * 6) x) := Lib.hid fun V hV => by rw [← hx]; exact (HSl.out.below hV HSl.out.1).at_ hlt
        have HCy : Hid (∀ V, Below w.heap.size w V → AtK V c (oft + k * 6) y) := Lib.hid fun V hV => by rw [← hy]; exact (HSm.out.below hV HSm.out.1).at_ hlq
        have HB1 := Lib.hid (HB.out.trans ((Below.refl wr.heap.size wr).drew.mono HB.out.size))
        clear hsl hsm
        by_cases e : x = y
        · have HN1 : Hid (∀ j, j < k + 1 → kA l j = kA q j) := Lib.hid fun j hj => by
            by_cases e1 : j = k
            · rw [e1, hx, hy, e]
            · exact HN.out j (by omega)
          subst e
          obtain ⟨c0, c1, c2, c3, c4, c5⟩ := HCx.out _ HB1.out
          obtain ⟨b0, b1, b2, b3, b4, b5⟩ := HCy.out _ HB1.out
          clear hx hy
          go_wp2_with fail
          refine wp_region_held_drew (S := fun V => V.cell? ⟨b, off + k * 6, none⟩ = some (.string x.id) ∧ V.cell? ⟨b, off + k * 6 + 1, none⟩ = some (.string x.sec) ∧ V.cell? ⟨b, off + k * 6 + 2, none⟩ = some (.int .i64 x.sf) ∧ V.cell? ⟨b, off + k * 6 + 3, none⟩ = some (.int .i64 x.su) ∧ V.cell? ⟨b, off + k * 6 + 4, none⟩ = some (.int .i64 x.af) ∧ V.cell? ⟨b, off + k * 6 + 5, none⟩ = some (.int .i64 x.au) ∧ V.cell? ⟨c, oft + k * 6, none⟩ = some (.string x.id) ∧ V.cell? ⟨c, oft + k * 6 + 1, none⟩ = some (.string x.sec) ∧ V.cell? ⟨c, oft + k * 6 + 2, none⟩ = some (.int .i64 x.sf) ∧ V.cell? ⟨c, oft + k * 6 + 3, none⟩ = some (.int .i64 x.su) ∧ V.cell? ⟨c, oft + k * 6 + 4, none⟩ = some (.int .i64 x.af) ∧ V.cell? ⟨c, oft + k * 6 + 5, none⟩ = some (.int .i64 x.au)) (by kernel_rfl) (⟨c0, c1, c2, c3, c4, c5, b0, b1, b2, b3, b4, b5⟩) (fun hS => ?_)
          refine wpAnyH_take (i := 0) (oi := { dst := some 17, op := _, type := _, pos := _, after := _, guard := _ }) (v := ?_) rfl (by kernel_rfl) (by kernel_rfl) (by kernel_rfl) (fun _ _ _ h => h) (Or.inl ⟨by rfl, ?_⟩) (by assumption) ?_
          rotate_left
          · intro w hSw
            try dsimp only at hSw
            go_simp
            try with_reducible rfl
          try simp only [Act.put, List.setIfInBounds_toArray, List.set_cons_zero, List.set_cons_succ]
          refine wpAnyH_take (i := 1) (oi := { dst := some 18, op := _, type := _, pos := _, after := _, guard := _ }) (v := ?_) rfl (by kernel_rfl) (by kernel_rfl) (by kernel_rfl) (fun _ _ _ h => h) (Or.inl ⟨by rfl, ?_⟩) (by assumption) ?_
          rotate_left
          · intro w hSw
            try dsimp only at hSw
            go_simp
            try with_reducible rfl
          try simp only [Act.put, List.setIfInBounds_toArray, List.set_cons_zero, List.set_cons_succ]
          refine wpAnyH_take (i := 2) (oi := { dst := some 19, op := _, type := _, pos := _, after := _, guard := _ }) (v := ?_) rfl (by kernel_rfl) (by kernel_rfl) (by kernel_rfl) (fun _ _ _ h => h) (Or.inl ⟨by rfl, ?_⟩) (by assumption) ?_
          rotate_left
          · intro w hSw
            try dsimp only at hSw
            go_simp
            try with_reducible rfl
          try simp only [Act.put, List.setIfInBounds_toArray, List.set_cons_zero, List.set_cons_succ]
          refine wpAnyH_take (i := 3) (oi := { dst := some 20, op := _, type := _, pos := _, after := _, guard := _ }) (v := ?_) rfl (by kernel_rfl) (by kernel_rfl) (by kernel_rfl) (fun _ _ _ h => h) (Or.inl ⟨by rfl, ?_⟩) (by assumption) ?_
          rotate_left
          · intro w hSw
            try dsimp only at hSw
            go_simp
            try with_reducible rfl
          try simp only [Act.put, List.setIfInBounds_toArray, List.set_cons_zero, List.set_cons_succ]
          refine wpAnyH_take (i := 4) (oi := { dst := some 21, op := _, type := _, pos := _, after := _, guard := _ }) (v := ?_) rfl (by kernel_rfl) (by kernel_rfl) (by kernel_rfl) (fun _ _ _ h => h) (Or.inl ⟨by rfl, ?_⟩) (by assumption) ?_
          rotate_left
          · intro w hSw
            try dsimp only at hSw
            go_simp
            try with_reducible rfl
          try simp only [Act.put, List.setIfInBounds_toArray, List.set_cons_zero, List.set_cons_succ]
          refine wpAnyH_take (i := 5) (oi := { dst := some 22, op := _, type := _, pos := _, after := _, guard := _ }) (v := ?_) rfl (by kernel_rfl) (by kernel_rfl) (by kernel_rfl) (fun _ _ _ h => h) (Or.inl ⟨by rfl, ?_⟩) (by assumption) ?_
          rotate_left
          · intro w hSw
            try dsimp only at hSw
            go_simp
            try with_reducible rfl
          try simp only [Act.put, List.setIfInBounds_toArray, List.set_cons_zero, List.set_cons_succ]
          refine wpAnyH_take (i := 6) (oi := { dst := some 23, op := _, type := _, pos := _, after := _, guard := _ }) (v := ?_) rfl (by kernel_rfl) (by kernel_rfl) (by kernel_rfl) (fun _ _ _ h => h) (Or.inl ⟨by rfl, ?_⟩) (by assumption) ?_
          rotate_left
          · intro w hSw
            try dsimp only at hSw
            go_simp
            try with_reducible rfl
          try simp only [Act.put, List.setIfInBounds_toArray, List.set_cons_zero, List.set_cons_succ]
          refine wpAnyH_take (i := 7) (oi := { dst := some 24, op := _, type := _, pos := _, after := _, guard := _ }) (v := ?_) rfl (by kernel_rfl) (by kernel_rfl) (by kernel_rfl) (fun _ _ _ h => h) (Or.inl ⟨by rfl, ?_⟩) (by assumption) ?_
          rotate_left
          · intro w hSw
            try dsimp only at hSw
            go_simp
            try with_reducible rfl
          try simp only [Act.put, List.setIfInBounds_toArray, List.set_cons_zero, List.set_cons_succ]
          refine wpAnyH_take (i := 8) (oi := { dst := some 25, op := _, type := _, pos := _, after := _, guard := _ }) (v := ?_) rfl (by kernel_rfl) (by kernel_rfl) (by kernel_rfl) (fun _ _ _ h => h) (Or.inl ⟨by rfl, ?_⟩) (by assumption) ?_
          rotate_left
          · intro w hSw
            try dsimp only at hSw
            go_simp
            try with_reducible rfl
          try simp only [Act.put, List.setIfInBounds_toArray, List.set_cons_zero, List.set_cons_succ]
          refine wpAnyH_done (by kernel_rfl) ?_ _
          go_wp2_with fail
          go_roundw
          case rel => exact ⟨k + 1, by omega, by go_num, HN1, HB1⟩
          case measure => simp [intOf]; omega
        · have HE := Lib.hid (show r = false from by
            rw [← HR.out]
            refine decide_eq_false fun e2 => e ?_
            rw [← hx, ← hy, e2])
          obtain ⟨c0, c1, c2, c3, c4, c5⟩ := HCx.out _ HB1.out
          obtain ⟨b0, b1, b2, b3, b4, b5⟩ := HCy.out _ HB1.out
          have HNe := Lib.hid e
          clear hx hy e
          go_wp2_with fail
          refine wp_region_held_drew (S := fun V => V.cell? ⟨b, off + k * 6, none⟩ = some (.string x.id) ∧ V.cell? ⟨b, off + k * 6 + 1, none⟩ = some (.string x.sec) ∧ V.cell? ⟨b, off + k * 6 + 2, none⟩ = some (.int .i64 x.sf) ∧ V.cell? ⟨b, off + k * 6 + 3, none⟩ = some (.int .i64 x.su) ∧ V.cell? ⟨b, off + k * 6 + 4, none⟩ = some (.int .i64 x.af) ∧ V.cell? ⟨b, off + k * 6 + 5, none⟩ = some (.int .i64 x.au) ∧ V.cell? ⟨c, oft + k * 6, none⟩ = some (.string y.id) ∧ V.cell? ⟨c, oft + k * 6 + 1, none⟩ = some (.string y.sec) ∧ V.cell? ⟨c, oft + k * 6 + 2, none⟩ = some (.int .i64 y.sf) ∧ V.cell? ⟨c, oft + k * 6 + 3, none⟩ = some (.int .i64 y.su) ∧ V.cell? ⟨c, oft + k * 6 + 4, none⟩ = some (.int .i64 y.af) ∧ V.cell? ⟨c, oft + k * 6 + 5, none⟩ = some (.int .i64 y.au)) (by kernel_rfl) (⟨c0, c1, c2, c3, c4, c5, b0, b1, b2, b3, b4, b5⟩) (fun hS => ?_)
          refine wpAnyH_take (i := 0) (oi := { dst := some 17, op := _, type := _, pos := _, after := _, guard := _ }) (v := ?_) rfl (by kernel_rfl) (by kernel_rfl) (by kernel_rfl) (fun _ _ _ h => h) (Or.inl ⟨by rfl, ?_⟩) (by assumption) ?_
          rotate_left
          · intro w hSw
            try dsimp only at hSw
            go_simp
            try with_reducible rfl
          try simp only [Act.put, List.setIfInBounds_toArray, List.set_cons_zero, List.set_cons_succ]
          refine wpAnyH_take (i := 1) (oi := { dst := some 18, op := _, type := _, pos := _, after := _, guard := _ }) (v := ?_) rfl (by kernel_rfl) (by kernel_rfl) (by kernel_rfl) (fun _ _ _ h => h) (Or.inl ⟨by rfl, ?_⟩) (by assumption) ?_
          rotate_left
          · intro w hSw
            try dsimp only at hSw
            go_simp
            try with_reducible rfl
          try simp only [Act.put, List.setIfInBounds_toArray, List.set_cons_zero, List.set_cons_succ]
          refine wpAnyH_take (i := 2) (oi := { dst := some 19, op := _, type := _, pos := _, after := _, guard := _ }) (v := ?_) rfl (by kernel_rfl) (by kernel_rfl) (by kernel_rfl) (fun _ _ _ h => h) (Or.inl ⟨by rfl, ?_⟩) (by assumption) ?_
          rotate_left
          · intro w hSw
            try dsimp only at hSw
            go_simp
            try with_reducible rfl
          try simp only [Act.put, List.setIfInBounds_toArray, List.set_cons_zero, List.set_cons_succ]
          refine wpAnyH_take (i := 3) (oi := { dst := some 20, op := _, type := _, pos := _, after := _, guard := _ }) (v := ?_) rfl (by kernel_rfl) (by kernel_rfl) (by kernel_rfl) (fun _ _ _ h => h) (Or.inl ⟨by rfl, ?_⟩) (by assumption) ?_
          rotate_left
          · intro w hSw
            try dsimp only at hSw
            go_simp
            try with_reducible rfl
          try simp only [Act.put, List.setIfInBounds_toArray, List.set_cons_zero, List.set_cons_succ]
          refine wpAnyH_take (i := 4) (oi := { dst := some 21, op := _, type := _, pos := _, after := _, guard := _ }) (v := ?_) rfl (by kernel_rfl) (by kernel_rfl) (by kernel_rfl) (fun _ _ _ h => h) (Or.inl ⟨by rfl, ?_⟩) (by assumption) ?_
          rotate_left
          · intro w hSw
            try dsimp only at hSw
            go_simp
            try with_reducible rfl
          try simp only [Act.put, List.setIfInBounds_toArray, List.set_cons_zero, List.set_cons_succ]
          refine wpAnyH_take (i := 5) (oi := { dst := some 22, op := _, type := _, pos := _, after := _, guard := _ }) (v := ?_) rfl (by kernel_rfl) (by kernel_rfl) (by kernel_rfl) (fun _ _ _ h => h) (Or.inl ⟨by rfl, ?_⟩) (by assumption) ?_
          rotate_left
          · intro w hSw
            try dsimp only at hSw
            go_simp
            try with_reducible rfl
          try simp only [Act.put, List.setIfInBounds_toArray, List.set_cons_zero, List.set_cons_succ]
          refine wpAnyH_take (i := 6) (oi := { dst := some 23, op := _, type := _, pos := _, after := _, guard := _ }) (v := ?_) rfl (by kernel_rfl) (by kernel_rfl) (by kernel_rfl) (fun _ _ _ h => h) (Or.inl ⟨by rfl, ?_⟩) (by assumption) ?_
          rotate_left
          · intro w hSw
            try dsimp only at hSw
            go_simp
            try with_reducible rfl
          try simp only [Act.put, List.setIfInBounds_toArray, List.set_cons_zero, List.set_cons_succ]
          refine wpAnyH_take (i := 7) (oi := { dst := some 24, op := _, type := _, pos := _, after := _, guard := _ }) (v := ?_) rfl (by kernel_rfl) (by kernel_rfl) (by kernel_rfl) (fun _ _ _ h => h) (Or.inl ⟨by rfl, ?_⟩) (by assumption) ?_
          rotate_left
          · intro w hSw
            try dsimp only at hSw
            go_simp
            try with_reducible rfl
          try simp only [Act.put, List.setIfInBounds_toArray, List.set_cons_zero, List.set_cons_succ]
          refine wpAnyH_take (i := 8) (oi := { dst := some 25, op := _, type := _, pos := _, after := _, guard := _ }) (v := ?_) rfl (by kernel_rfl) (by kernel_rfl) (by kernel_rfl) (fun _ _ _ h => h) (Or.inl ⟨by rfl, ?_⟩) (by assumption) ?_
          rotate_left
          · intro w hSw
            try dsimp only at hSw
            go_simp
            rw [ky_ite HNe.out]
            try with_reducible rfl
          try simp only [Act.put, List.setIfInBounds_toArray, List.set_cons_zero, List.set_cons_succ]
          refine wpAnyH_done (by kernel_rfl) ?_ _
          go_wp2_with fail
          go_ret
          exact ⟨by rw [HE.out]; rfl, HB1.out⟩
      · obtain rfl : k = l.length := by omega
        have HE := Lib.hid (show r = true from by
          rw [← HR.out]
          exact decide_eq_true (ks_ext hl HN.out))
        go_wp2_with fail
        go_ret
        exact ⟨by rw [HE.out]; rfl, HB.out⟩
  · have HE := Lib.hid (show r = false from by
      rw [← HR.out]
      exact decide_eq_false fun e => hl (by rw [e]))
    have d2 : ¬ (l.length : Int) = (q.length : Int) := by omega
    have d1 : (((l.length : Int) != (q.length : Int)) = true) := by rw [bne_iff_ne]; omega
    go_enter Tryz.func21, Tryz.ntmps21
    go_wp2_with fail
    go_ret
    exact ⟨by rw [HE.out]; rfl, Below.refl _ _⟩
end Go.Proofs.YtgepcbggkfjlgaaGreatDoor
end

section
/-
  Contract of keys' Rotate. Condition: strings of at most 1000000000 bytes.
-/
set_option maxRecDepth 100000
set_option linter.unusedVariables false
set_option linter.unusedSimpArgs false
set_option linter.unnecessarySimpa false
namespace Go.Proofs.YtgepcbggkfjlgaaGreatDoor
open Go.RowKit Go.PlainAid

theorem map_take (f : Ky → Ky) {l : List Ky} {k : Nat} {g : Ky} (h : k < l.length) (hg : kA l k = g) : (l.take (k + 1)).map f = (l.take k).map f ++ [f g] := by
  rw [take_k l k h, List.map_append, hg]; rfl
theorem rot_1 {l : List Ky} {id sec : ByteArray} {now life grace : Int} (h : chkK l ≠ 0) : rotK l id sec now life grace = ([], chkK l) := by unfold rotK; rw [if_pos h]
theorem rot_2 {l : List Ky} {id sec : ByteArray} {now life grace : Int} (h0 : chkK l = 0) (h : nwE l id sec ≠ 0) : rotK l id sec now life grace = ([], nwE l id sec) := by unfold rotK; rw [if_neg (by rw [h0]; decide), if_pos h]
theorem rot_3 {l : List Ky} {id sec : ByteArray} {now life grace : Int} (h0 : chkK l = 0) (h1 : nwE l id sec = 0) (h : addI now life ≤ addI now 0) : rotK l id sec now life grace = ([], 2) := by unfold rotK; rw [if_neg (by rw [h0]; decide), if_neg (by rw [h1]; decide), if_pos h]
theorem rot_4 {l : List Ky} {id sec : ByteArray} {now life grace : Int} (h0 : chkK l = 0) (h1 : nwE l id sec = 0) (h2 : ¬ addI now life ≤ addI now 0) (h : 16 ≤ l.length) : rotK l id sec now life grace = ([], 3) := by unfold rotK; rw [if_neg (by rw [h0]; decide), if_neg (by rw [h1]; decide), if_neg h2, if_pos h]
theorem rot_5 {l : List Ky} {id sec : ByteArray} {now life grace : Int} (h0 : chkK l = 0) (h1 : nwE l id sec = 0) (h2 : ¬ addI now life ≤ addI now 0) (h : ¬ 16 ≤ l.length) : rotK l id sec now life grace = (l.map (cutK (addI now 0)) ++ [newK id sec (addI now 0) (addI now life) grace], 0) := by unfold rotK; rw [if_neg (by rw [h0]; decide), if_neg (by rw [h1]; decide), if_neg h2, if_neg h]
set_option maxHeartbeats 4000000 in
theorem rotate_k (ao : Option Addr) (n cap : Nat) (l L : List Ky) (id sec : ByteArray) (now life grace z : Int) (w : World) (h : KsAt w ao n cap l) (hs : ∀ k ∈ l, SmK k) (hi : id.size ≤ 1000000000) (hc : sec.size ≤ 1000000000) (hz : rotK l id sec now life grace = (L, z)) :
    Calls Tryz.prog 19 #[.slice ao n cap, .string id, .string sec, .int .i64 now, .int .i64 life, .int .i64 grace] w fun e w' => ∃ bo dap, e = .returned (.tuple #[.slice bo L.length dap, .int .i64 z]) ∧ KsAt w' bo L.length dap L ∧ Below w.heap.size w w' := by
  have H := Lib.hid h
  obtain ⟨h1, h2, h3, _, _⟩ := h
  subst h1
  unfold maxLen at h3
  have HS := Lib.hid hs
  have HI := Lib.hid hi
  have HC := Lib.hid hc
  clear hs hi hc
  obtain ⟨c, qc⟩ : ∃ c, chkK l = c := ⟨_, rfl⟩
  have HQc := Lib.hid qc
  cases qz : (c != 0)
  · have e0 : c = 0 := by simpa using qz
    subst e0
    clear qz
    obtain ⟨d, qd⟩ : ∃ d, nwE l id sec = d := ⟨_, rfl⟩
    have HQd := Lib.hid qd
    cases qy : (d != 0)
    · have e0 : d = 0 := by simpa using qy
      subst e0
      clear qy
      obtain ⟨f, hf⟩ : ∃ f, addI now 0 = f := ⟨_, rfl⟩
      obtain ⟨u, hu⟩ : ∃ u, addI now life = u := ⟨_, rfl⟩
      have HF := Lib.hid hf
      have HU := Lib.hid hu
      by_cases d3 : u ≤ f
      · rw [rot_3 qc qd (by rw [hf, hu]; exact d3)] at hz
        obtain ⟨rfl, rfl⟩ := Prod.mk.inj hz
        clear hz qc qd hf hu
        go_enter Tryz.func19, Tryz.ntmps19
        go_wp2_with fail
        refine (check_k _ _ cap l _ _ H.out HS.out HQc.out).mono ?_
        rintro e w1 ⟨rfl, hb1⟩
        have HB1 := Lib.hid hb1
        have HK1 := Lib.hid (H.out.below hb1)
        clear hb1
        go_wp2_with fail
        refine (checkNew_k _ _ cap l id sec _ _ HK1.out HI.out HC.out HQd.out).mono ?_
        rintro e w2 ⟨rfl, hb2⟩
        have HB2 := Lib.hid (HB1.out.trans (hb2.mono HB1.out.size))
        clear hb2
        go_wp2_with fail
        refine (add_k now 0 f _ HF.out).mono ?_
        rintro e w' ⟨rfl, rfl⟩
        go_wp2_with fail
        refine (add_k now life u _ HU.out).mono ?_
        rintro e w' ⟨rfl, rfl⟩
        go_wp2_with fail
        go_ret2
        exact ⟨none, 0, rfl, ks_nil _, HB2.out⟩
      · by_cases d4 : 16 ≤ l.length
        · rw [rot_4 qc qd (by rw [hf, hu]; exact d3) d4] at hz
          obtain ⟨rfl, rfl⟩ := Prod.mk.inj hz
          have d5 : (16 : Int) ≤ (l.length : Int) := by omega
          clear hz qc qd hf hu
          go_enter Tryz.func19, Tryz.ntmps19
          go_wp2_with fail
          refine (check_k _ _ cap l _ _ H.out HS.out HQc.out).mono ?_
          rintro e w1 ⟨rfl, hb1⟩
          have HB1 := Lib.hid hb1
          have HK1 := Lib.hid (H.out.below hb1)
          clear hb1
          go_wp2_with fail
          refine (checkNew_k _ _ cap l id sec _ _ HK1.out HI.out HC.out HQd.out).mono ?_
          rintro e w2 ⟨rfl, hb2⟩
          have HB2 := Lib.hid (HB1.out.trans (hb2.mono HB1.out.size))
          clear hb2
          go_wp2_with fail
          refine (add_k now 0 f _ HF.out).mono ?_
          rintro e w' ⟨rfl, rfl⟩
          go_wp2_with fail
          refine (add_k now life u _ HU.out).mono ?_
          rintro e w' ⟨rfl, rfl⟩
          go_wp2_with fail
          go_ret2
          exact ⟨none, 0, rfl, ks_nil _, HB2.out⟩
        · rw [rot_5 qc qd (by rw [hf, hu]; exact d3) d4, hf, hu] at hz
          obtain ⟨hL, rfl⟩ := Prod.mk.inj hz
          have HL := Lib.hid hL
          have d5 : ¬ (16 : Int) ≤ (l.length : Int) := by omega
          have d6 : l.length < 16 := by omega
          obtain ⟨i0, hi, hz0, hz1, hz2⟩ := k_parts info_k
          clear hz qc qd hf hu hL
          go_enter Tryz.func19, Tryz.ntmps19
          go_wp2_with fail
          refine (check_k _ _ cap l _ _ H.out HS.out HQc.out).mono ?_
          rintro e w1 ⟨rfl, hb1⟩
          have HB1 := Lib.hid hb1
          have HK1 := Lib.hid (H.out.below hb1)
          clear hb1
          go_wp2_with fail
          refine (checkNew_k _ _ cap l id sec _ _ HK1.out HI.out HC.out HQd.out).mono ?_
          rintro e w2 ⟨rfl, hb2⟩
          have HB2 := Lib.hid (HB1.out.trans (hb2.mono HB1.out.size))
          clear hb2
          go_wp2_with fail
          refine (add_k now 0 f _ HF.out).mono ?_
          rintro e w' ⟨rfl, rfl⟩
          go_wp2_with fail
          refine (add_k now life u _ HU.out).mono ?_
          rintro e w' ⟨rfl, rfl⟩
          go_wp2_with (at_make; refine wpList_make_own _ rfl _ _ 22 rfl w.heap.size 31 i0 (.agg #[.string ⟨#[]⟩, .string ⟨#[]⟩, .int .i64 0, .int .i64 0, .int .i64 0, .int .i64 0]) 6 Tryz.underlying22 hi hz0 hz1 .i64 .i64 ((l.length : Int) + 1) (l.length + 1) rfl rfl (by omega) (by rw [hz2]; omega) (by unfold maxLen; omega) HB2.out.size ?_; intro w3 hown hgr)
          have HB3 := Lib.hid (HB2.out.grown hgr HB2.out.size (fun k hk => by cases hk))
          have HW3 := Lib.hid hown
          have hm : cutK f = fun k => { k with su := max k.sf (min k.su f) } := rfl
          clear hgr hown hm
          go_wp2_with fail
          go_loopw [18, 52] (fun v iv wr => ∃ (k : Nat) (C : List Ky), k ≤ l.length ∧ iv = .int .i64 k ∧ Hid ((l.take k).map (cutK f) = C) ∧ Hid (wr.ownsRow w.heap.size 31 6 v C.length (kcs C)) ∧ Hid (Below w.heap.size w wr)) (fun _ iv _ => l.length - (intOf iv).toNat)
          case atStart => exact ⟨0, [], Nat.zero_le _, rfl, Lib.hid rfl, HW3, HB3⟩
          case round =>
            clear HB3 HW3
            rename_i v
            obtain ⟨k, C, hk, rfl, HCm, HW, HB⟩ := hrel
            by_cases hlt : k < l.length
            · obtain ⟨b, off, rfl, hsl⟩ := H.out.2.2.2.1 (by omega)
              have hat := (hsl.below HB.out hsl.1).at_ hlt
              obtain ⟨g, hg⟩ : ∃ g, kA l k = g := ⟨_, rfl⟩
              rw [hg] at hat
              have hft := map_take (cutK f) hlt hg
              rw [HCm.out] at hft
              have hcl : C.length ≤ 1000 := by rw [← HCm.out, List.length_map, List.length_take]; omega
              obtain ⟨c0, c1, c2, c3, c4, c5⟩ := hat
              have HCm1 := Lib.hid hft
              obtain ⟨y, hy⟩ : ∃ y, max g.sf (min g.su f) = y := ⟨_, rfl⟩
              have HK0 := Lib.hid (kbc_new wr (kB g))
              unfold kB kcells at HK0
              have k0 := HK0.out.cell (i := 0) rfl
              have k1 := HK0.out.cell (i := 1) rfl
              have k2 := HK0.out.cell (i := 2) rfl
              have k3 := HK0.out.cell (i := 3) rfl
              have k4 := HK0.out.cell (i := 4) rfl
              have k5 := HK0.out.cell (i := 5) rfl
              have kf := HK0.out.frz (i := 3)
              have hcut : cutK f g = ⟨g.id, g.sec, g.sf, y, g.af, g.au⟩ := by rw [← hy]; rfl
              have hbA := box_below wr (kB ⟨g.id, g.sec, g.sf, y, g.af, g.au⟩)
              have hbB := hbA.trans ((box_below _ (kB ⟨g.id, g.sec, g.sf, y, g.af, g.au⟩)).mono hbA.size)
              have HO4 := Lib.hid (own_below HW.out hbB)
              have hk4 := ks_one (wr.alloc (kB ⟨g.id, g.sec, g.sf, y, g.af, g.au⟩)) ⟨g.id, g.sec, g.sf, y, g.af, g.au⟩
              rw [World.size_alloc] at hk4
              have HK4 := Lib.hid hk4
              have HB4 := Lib.hid (HB.out.trans (hbB.mono HB.out.size))
              rw [hcut] at HCm1
              dsimp only [kB, kcells] at HO4 HK4 HB4
              clear hsl hg hft hcut hbA hbB hk4
              go_wp2_with (at_builtin; go_loud (refine app_ks _ HO4.out (.tmp 67) (.tmp 69) (some ⟨wr.heap.size + 1, 0, none⟩) 1 1 [⟨g.id, g.sec, g.sf, y, g.af, g.au⟩] ?_ ?_ ?_ ?_ ?_ ?_ ?_ ?_; exact rfl; exact rfl; exact rfl; exact rfl; exact HK4.out; omega; exact HB4.out.size; intro v5 w5 hown5 hb5))
              rw [← kcs_app] at hown5
              have HW5 := Lib.hid (show w5.ownsRow w.heap.size 31 6 v5 (C ++ [(⟨g.id, g.sec, g.sf, y, g.af, g.au⟩ : Ky)]).length (kcs (C ++ [⟨g.id, g.sec, g.sf, y, g.af, g.au⟩])) by rw [List.length_append]; exact hown5)
              have HB5 := Lib.hid (HB4.out.trans hb5)
              clear hown5 hb5 c0 c1 c2 c3 c4 c5 k0 k1 k2 k3 k4 k5 kf
              go_wp2_with fail
              go_roundw
              case rel => exact ⟨k + 1, C ++ [⟨g.id, g.sec, g.sf, y, g.af, g.au⟩], by omega, by go_num, HCm1, HW5, HB5⟩
              case measure => simp [intOf]; omega
            · obtain rfl : k = l.length := by omega
              have HE := Lib.hid (show C ++ [newK id sec f u grace] = L by rw [← HL.out, ← HCm.out, List.take_length])
              have hcl : C.length ≤ 1000 := by rw [← HCm.out, List.length_map, List.length_take]; omega
              obtain ⟨y, hy⟩ : ∃ y, addI u grace = y := ⟨_, rfl⟩
              have HY := Lib.hid hy
              have hny : newK id sec f u grace = ⟨id, sec, f, u, f, y⟩ := by rw [← hy]; rfl
              rw [hny] at HE
              have HO4 := Lib.hid (own_below HW.out (box_below wr (kB ⟨id, sec, f, u, f, y⟩)))
              have HK4 := Lib.hid (ks_one wr ⟨id, sec, f, u, f, y⟩)
              have HB4 := Lib.hid (HB.out.trans ((box_below wr (kB ⟨id, sec, f, u, f, y⟩)).mono HB.out.size))
              unfold kB kcells at HO4 HK4 HB4
              clear hy hny
              go_wp2_with fail
              refine (add_k u grace y _ HY.out).mono ?_
              rintro e w' ⟨rfl, rfl⟩
              go_wp2_with (at_builtin; refine app_ks _ HO4.out (.tmp 72) (.tmp 84) (some ⟨wr.heap.size, 0, none⟩) 1 1 [⟨id, sec, f, u, f, y⟩] ?_ ?_ ?_ ?_ ?_ ?_ ?_ ?_; exact rfl; exact rfl; exact rfl; exact rfl; exact HK4.out; omega; exact HB4.out.size; intro v5 w5 hown5 hb5)
              rw [← kcs_app] at hown5
              have HB5 := Lib.hid (HB4.out.trans hb5)
              have hown6 : w5.ownsRow w.heap.size 31 6 v5 (C ++ [(⟨id, sec, f, u, f, y⟩ : Ky)]).length (kcs (C ++ [⟨id, sec, f, u, f, y⟩])) := by rw [List.length_append]; exact hown5
              rw [HE.out] at hown6
              obtain ⟨bo, dap, e1, hat⟩ := ks_of_owns hown6
              subst e1
              have HA := Lib.hid hat
              clear hown5 hown6 hb5 hat
              go_wp2_with fail
              go_ret2
              exact ⟨bo, dap, rfl, HA.out, HB5.out⟩
    · have e0 : d ≠ 0 := by simpa using qy
      rw [rot_2 qc (by rw [qd]; exact e0), qd] at hz
      obtain ⟨rfl, rfl⟩ := Prod.mk.inj hz
      clear hz qc qd
      go_enter Tryz.func19, Tryz.ntmps19
      go_wp2_with fail
      refine (check_k _ _ cap l _ _ H.out HS.out HQc.out).mono ?_
      rintro e w1 ⟨rfl, hb1⟩
      have HB1 := Lib.hid hb1
      have HK1 := Lib.hid (H.out.below hb1)
      clear hb1
      go_wp2_with fail
      refine (checkNew_k _ _ cap l id sec _ _ HK1.out HI.out HC.out HQd.out).mono ?_
      rintro e w2 ⟨rfl, hb2⟩
      have HB2 := Lib.hid (HB1.out.trans (hb2.mono HB1.out.size))
      clear hb2
      go_wp2_with fail
      go_ret2
      exact ⟨none, 0, rfl, ks_nil _, HB2.out⟩
  · have e0 : c ≠ 0 := by simpa using qz
    rw [rot_1 (by rw [qc]; exact e0), qc] at hz
    obtain ⟨rfl, rfl⟩ := Prod.mk.inj hz
    clear hz qc
    go_enter Tryz.func19, Tryz.ntmps19
    go_wp2_with fail
    refine (check_k _ _ cap l _ _ H.out HS.out HQc.out).mono ?_
    rintro e w1 ⟨rfl, hb1⟩
    have HB1 := Lib.hid hb1
    clear hb1
    go_wp2_with fail
    go_ret2
    exact ⟨none, 0, rfl, ks_nil _, HB1.out⟩
end Go.Proofs.YtgepcbggkfjlgaaGreatDoor
end

section
/-
  Contract of the specification's Rotate. Condition: strings of at most 1000000000 bytes.
-/
set_option maxRecDepth 100000
set_option linter.unusedVariables false
set_option linter.unusedSimpArgs false
set_option linter.unnecessarySimpa false
namespace Go.Proofs.YtgepcbggkfjlgaaGreatDoor
open Go.RowKit Go.PlainAid

set_option maxHeartbeats 8000000 in
theorem rrotate_k (ao : Option Addr) (n cap : Nat) (l L : List Ky) (id sec : ByteArray) (now life grace z : Int) (w : World) (h : KsAt w ao n cap l) (hs : ∀ k ∈ l, SmK k) (hi : id.size ≤ 1000000000) (hc : sec.size ≤ 1000000000) (hz : rotK l id sec now life grace = (L, z)) :
    Calls Tryz.prog 20 #[.slice ao n cap, .string id, .string sec, .int .i64 now, .int .i64 life, .int .i64 grace] w fun e w' => ∃ bo dap, e = .returned (.tuple #[.slice bo L.length dap, .int .i64 z]) ∧ KsAt w' bo L.length dap L ∧ Below w.heap.size w w' := by
  have H := Lib.hid h
  obtain ⟨h1, h2, h3, _, _⟩ := h
  subst h1
  unfold maxLen at h3
  have HS := Lib.hid hs
  have HI := Lib.hid hi
  have HC := Lib.hid hc
  clear hs hi hc
  obtain ⟨c, qc⟩ : ∃ c, chkK l = c := ⟨_, rfl⟩
  have HQc := Lib.hid qc
  have HZ := Lib.hid hz
  cases qz : (c != 0)
  · have e0 : c = 0 := by simpa using qz
    subst e0
    clear qz hz
    have hn16 := (okK_of qc).len
    cases qw : wordB id
    · have hz := HZ.out
      rw [rot_2 qc (by rw [nwE_5 qw]; decide), nwE_5 qw] at hz
      obtain ⟨rfl, rfl⟩ := Prod.mk.inj hz
      have HW := Lib.hid qw
      clear hz qc qw
      go_enter Tryz.func20, Tryz.ntmps20
      go_wp2_with fail
      refine (rcheck_k _ _ cap l _ _ H.out HS.out HQc.out).mono ?_
      rintro e w1 ⟨rfl, hb1⟩
      have HB1 := Lib.hid hb1
      clear hb1
      go_wp2_with fail
      refine (rword_k id false _ HI.out HW.out).mono ?_
      rintro e w' ⟨rfl, rfl⟩
      go_wp2_with fail
      go_ret2
      exact ⟨none, 0, rfl, ks_nil _, HB1.out⟩
    · have HW := Lib.hid qw
      cases qs : cleanB sec
      · have hz := HZ.out
        rw [rot_2 qc (by rw [nwE_4 qw qs]; decide), nwE_4 qw qs] at hz
        obtain ⟨rfl, rfl⟩ := Prod.mk.inj hz
        have HD := Lib.hid qs
        clear hz qc qw qs
        go_enter Tryz.func20, Tryz.ntmps20
        go_wp2_with fail
        refine (rcheck_k _ _ cap l _ _ H.out HS.out HQc.out).mono ?_
        rintro e w1 ⟨rfl, hb1⟩
        have HB1 := Lib.hid hb1
        clear hb1
        go_wp2_with fail
        refine (rword_k id true _ HI.out HW.out).mono ?_
        rintro e w' ⟨rfl, rfl⟩
        go_wp2_with fail
        refine (rclean_k sec false _ HC.out HD.out).mono ?_
        rintro e w' ⟨rfl, rfl⟩
        go_wp2_with fail
        go_ret2
        exact ⟨none, 0, rfl, ks_nil _, HB1.out⟩
      · have HD := Lib.hid qs
        obtain ⟨f, hf⟩ : ∃ f, addI now 0 = f := ⟨_, rfl⟩
        obtain ⟨u, hu⟩ : ∃ u, addI now life = u := ⟨_, rfl⟩
        have HF := Lib.hid hf
        have HU := Lib.hid hu
        clear qc qw qs hf hu
        go_enter Tryz.func20, Tryz.ntmps20
        go_wp2_with fail
        refine (rcheck_k _ _ cap l _ _ H.out HS.out HQc.out).mono ?_
        rintro e w1 ⟨rfl, hb1⟩
        have HB1 := Lib.hid hb1
        clear hb1
        go_wp2_with fail
        refine (rword_k id true _ HI.out HW.out).mono ?_
        rintro e w' ⟨rfl, rfl⟩
        go_wp2_with fail
        refine (rclean_k sec true _ HC.out HD.out).mono ?_
        rintro e w' ⟨rfl, rfl⟩
        go_wp2_with fail
        refine (radd_k now 0 f _ HF.out).mono ?_
        rintro e w' ⟨rfl, rfl⟩
        go_wp2_with fail
        refine (radd_k now life u _ HU.out).mono ?_
        rintro e w' ⟨rfl, rfl⟩
        go_wp2_with fail
        go_loopw [17, 18] (fun v iv wr => ∃ (k : Nat) (C : List Ky), k ≤ l.length ∧ iv = .int .i64 k ∧ Hid (∀ j, j < k → (kA l j).id ≠ id) ∧ Hid ((l.take k).map (cutK f) = C) ∧ Hid (wr.ownsRow w.heap.size 31 6 v C.length (kcs C)) ∧ Hid (Below w.heap.size w wr)) (fun _ iv _ => l.length - (intOf iv).toNat)
        case atStart => exact ⟨0, [], Nat.zero_le _, rfl, Lib.hid fun j hj => absurd hj (Nat.not_lt_zero _), Lib.hid rfl, Lib.hid (World.ownsRow_nil _ _ _ _), HB1⟩
        case round =>
          clear HB1
          obtain ⟨k, C, hk, rfl, HN, HCm, HO, HB⟩ := hrel
          by_cases hlt : k < l.length
          · obtain ⟨b, off, rfl, hsl⟩ := H.out.2.2.2.1 (by omega)
            have hat := (hsl.below HB.out hsl.1).at_ hlt
            obtain ⟨g, hg⟩ : ∃ g, kA l k = g := ⟨_, rfl⟩
            rw [hg] at hat
            have hcl : C.length ≤ 1000 := by rw [← HCm.out, List.length_map, List.length_take]; omega
            obtain ⟨c0, c1, c2, c3, c4, c5⟩ := hat
            by_cases e : g.id = id
            · have hq : (g.id.toList == id.toList) = true := by rw [str_eq', e]; exact decide_eq_true rfl
              have hq2 : g.id.toList = id.toList := by rw [e]
              have hh := (ixR_at hlt (by rw [hg]; exact e) HN.out).2.1
              have hz := HZ.out
              rw [rot_2 HQc.out (by rw [nwE_7 HW.out HD.out hh]; decide), nwE_7 HW.out HD.out hh] at hz
              obtain ⟨rfl, rfl⟩ := Prod.mk.inj hz
              clear hz hh e hg hsl
              go_wp2_with fail
              go_ret2
              exact ⟨none, 0, rfl, ks_nil _, HB.out⟩
            · have hq : (g.id.toList == id.toList) = false := by rw [str_eq']; exact decide_eq_false e
              have hq2 : ¬ g.id.toList = id.toList := fun e2 => by rw [e2] at hq; simp at hq
              have HN1 : Hid (∀ j, j < k + 1 → (kA l j).id ≠ id) := Lib.hid fun j hj => by
                by_cases e1 : j = k
                · rw [e1, hg]; exact e
                · exact HN.out j (by omega)
              have hft := map_take (cutK f) hlt hg
              rw [HCm.out] at hft
              have HCm1 := Lib.hid hft
              clear hft hsl hg e
              by_cases e1 : f < g.su
              · by_cases e2 : f < g.sf
                · have hcut : cutK f g = ⟨g.id, g.sec, g.sf, g.sf, g.af, g.au⟩ := by
                    have : max g.sf (min g.su f) = g.sf := by omega
                    show (⟨g.id, g.sec, g.sf, max g.sf (min g.su f), g.af, g.au⟩ : Ky) = _
                    rw [this]
                  have hbA := box_below wr (kB ⟨g.id, g.sec, g.sf, g.sf, g.af, g.au⟩)
                  have hbB := hbA.trans ((box_below _ (kB ⟨g.id, g.sec, g.sf, g.sf, g.af, g.au⟩)).mono hbA.size)
                  have HO4 := Lib.hid (own_below HO.out hbB)
                  have hk4 := ks_one (wr.alloc (kB ⟨g.id, g.sec, g.sf, g.sf, g.af, g.au⟩)) ⟨g.id, g.sec, g.sf, g.sf, g.af, g.au⟩
                  rw [World.size_alloc] at hk4
                  have HK4 := Lib.hid hk4
                  have HB4 := Lib.hid (HB.out.trans (hbB.mono HB.out.size))
                  rw [hcut] at HCm1
                  dsimp only [kB, kcells] at HO4 HK4 HB4
                  have HK0 := Lib.hid (kbc_new wr (kB g))
                  unfold kB kcells at HK0
                  have k0 := HK0.out.cell (i := 0) rfl
                  have k1 := HK0.out.cell (i := 1) rfl
                  have k2 := HK0.out.cell (i := 2) rfl
                  have k3 := HK0.out.cell (i := 3) rfl
                  have k4 := HK0.out.cell (i := 4) rfl
                  have k5 := HK0.out.cell (i := 5) rfl
                  have kf := HK0.out.frz (i := 3)
                  clear hcut hbA hbB hk4
                  go_wp2_with (at_builtin; refine app_ks _ HO4.out (.tmp 74) (.tmp 76) (some ⟨wr.heap.size + 1, 0, none⟩) 1 1 [⟨g.id, g.sec, g.sf, g.sf, g.af, g.au⟩] ?_ ?_ ?_ ?_ ?_ ?_ ?_ ?_; exact rfl; exact rfl; exact rfl; exact rfl; exact HK4.out; omega; exact HB4.out.size; intro v5 w5 hown5 hb5)
                  rw [← kcs_app] at hown5
                  have HW5 := Lib.hid (show w5.ownsRow w.heap.size 31 6 v5 (C ++ [(⟨g.id, g.sec, g.sf, g.sf, g.af, g.au⟩ : Ky)]).length (kcs (C ++ [⟨g.id, g.sec, g.sf, g.sf, g.af, g.au⟩])) by rw [List.length_append]; exact hown5)
                  have HB5 := Lib.hid (HB4.out.trans hb5)
                  clear hown5 hb5 c0 c1 c2 c3 c4 c5 k0 k1 k2 k3 k4 k5 kf
                  go_wp2_with fail
                  go_roundw
                  case rel => exact ⟨k + 1, C ++ [⟨g.id, g.sec, g.sf, g.sf, g.af, g.au⟩], by omega, by go_num, HN1, HCm1, HW5, HB5⟩
                  case measure => simp [intOf]; omega
                · have hcut : cutK f g = ⟨g.id, g.sec, g.sf, f, g.af, g.au⟩ := by
                    have : max g.sf (min g.su f) = f := by omega
                    show (⟨g.id, g.sec, g.sf, max g.sf (min g.su f), g.af, g.au⟩ : Ky) = _
                    rw [this]
                  have hbA := box_below wr (kB ⟨g.id, g.sec, g.sf, f, g.af, g.au⟩)
                  have hbB := hbA.trans ((box_below _ (kB ⟨g.id, g.sec, g.sf, f, g.af, g.au⟩)).mono hbA.size)
                  have HO4 := Lib.hid (own_below HO.out hbB)
                  have hk4 := ks_one (wr.alloc (kB ⟨g.id, g.sec, g.sf, f, g.af, g.au⟩)) ⟨g.id, g.sec, g.sf, f, g.af, g.au⟩
                  rw [World.size_alloc] at hk4
                  have HK4 := Lib.hid hk4
                  have HB4 := Lib.hid (HB.out.trans (hbB.mono HB.out.size))
                  rw [hcut] at HCm1
                  dsimp only [kB, kcells] at HO4 HK4 HB4
                  have HK0 := Lib.hid (kbc_new wr (kB g))
                  unfold kB kcells at HK0
                  have k0 := HK0.out.cell (i := 0) rfl
                  have k1 := HK0.out.cell (i := 1) rfl
                  have k2 := HK0.out.cell (i := 2) rfl
                  have k3 := HK0.out.cell (i := 3) rfl
                  have k4 := HK0.out.cell (i := 4) rfl
                  have k5 := HK0.out.cell (i := 5) rfl
                  have kf := HK0.out.frz (i := 3)
                  clear hcut hbA hbB hk4
                  go_wp2_with (at_builtin; refine app_ks _ HO4.out (.tmp 74) (.tmp 76) (some ⟨wr.heap.size + 1, 0, none⟩) 1 1 [⟨g.id, g.sec, g.sf, f, g.af, g.au⟩] ?_ ?_ ?_ ?_ ?_ ?_ ?_ ?_; exact rfl; exact rfl; exact rfl; exact rfl; exact HK4.out; omega; exact HB4.out.size; intro v5 w5 hown5 hb5)
                  rw [← kcs_app] at hown5
                  have HW5 := Lib.hid (show w5.ownsRow w.heap.size 31 6 v5 (C ++ [(⟨g.id, g.sec, g.sf, f, g.af, g.au⟩ : Ky)]).length (kcs (C ++ [⟨g.id, g.sec, g.sf, f, g.af, g.au⟩])) by rw [List.length_append]; exact hown5)
                  have HB5 := Lib.hid (HB4.out.trans hb5)
                  clear hown5 hb5 c0 c1 c2 c3 c4 c5 k0 k1 k2 k3 k4 k5 kf
                  go_wp2_with fail
                  go_roundw
                  case rel => exact ⟨k + 1, C ++ [⟨g.id, g.sec, g.sf, f, g.af, g.au⟩], by omega, by go_num, HN1, HCm1, HW5, HB5⟩
                  case measure => simp [intOf]; omega
              · by_cases e2 : g.su < g.sf
                · have hcut : cutK f g = ⟨g.id, g.sec, g.sf, g.sf, g.af, g.au⟩ := by
                    have : max g.sf (min g.su f) = g.sf := by omega
                    show (⟨g.id, g.sec, g.sf, max g.sf (min g.su f), g.af, g.au⟩ : Ky) = _
                    rw [this]
                  have hbA := box_below wr (kB ⟨g.id, g.sec, g.sf, g.sf, g.af, g.au⟩)
                  have hbB := hbA.trans ((box_below _ (kB ⟨g.id, g.sec, g.sf, g.sf, g.af, g.au⟩)).mono hbA.size)
                  have HO4 := Lib.hid (own_below HO.out hbB)
                  have hk4 := ks_one (wr.alloc (kB ⟨g.id, g.sec, g.sf, g.sf, g.af, g.au⟩)) ⟨g.id, g.sec, g.sf, g.sf, g.af, g.au⟩
                  rw [World.size_alloc] at hk4
                  have HK4 := Lib.hid hk4
                  have HB4 := Lib.hid (HB.out.trans (hbB.mono HB.out.size))
                  rw [hcut] at HCm1
                  dsimp only [kB, kcells] at HO4 HK4 HB4
                  have HK0 := Lib.hid (kbc_new wr (kB g))
                  unfold kB kcells at HK0
                  have k0 := HK0.out.cell (i := 0) rfl
                  have k1 := HK0.out.cell (i := 1) rfl
                  have k2 := HK0.out.cell (i := 2) rfl
                  have k3 := HK0.out.cell (i := 3) rfl
                  have k4 := HK0.out.cell (i := 4) rfl
                  have k5 := HK0.out.cell (i := 5) rfl
                  have kf := HK0.out.frz (i := 3)
                  clear hcut hbA hbB hk4
                  go_wp2_with (at_builtin; refine app_ks _ HO4.out (.tmp 74) (.tmp 76) (some ⟨wr.heap.size + 1, 0, none⟩) 1 1 [⟨g.id, g.sec, g.sf, g.sf, g.af, g.au⟩] ?_ ?_ ?_ ?_ ?_ ?_ ?_ ?_; exact rfl; exact rfl; exact rfl; exact rfl; exact HK4.out; omega; exact HB4.out.size; intro v5 w5 hown5 hb5)
                  rw [← kcs_app] at hown5
                  have HW5 := Lib.hid (show w5.ownsRow w.heap.size 31 6 v5 (C ++ [(⟨g.id, g.sec, g.sf, g.sf, g.af, g.au⟩ : Ky)]).length (kcs (C ++ [⟨g.id, g.sec, g.sf, g.sf, g.af, g.au⟩])) by rw [List.length_append]; exact hown5)
                  have HB5 := Lib.hid (HB4.out.trans hb5)
                  clear hown5 hb5 c0 c1 c2 c3 c4 c5 k0 k1 k2 k3 k4 k5 kf
                  go_wp2_with fail
                  go_roundw
                  case rel => exact ⟨k + 1, C ++ [⟨g.id, g.sec, g.sf, g.sf, g.af, g.au⟩], by omega, by go_num, HN1, HCm1, HW5, HB5⟩
                  case measure => simp [intOf]; omega
                · have hcut : cutK f g = ⟨g.id, g.sec, g.sf, g.su, g.af, g.au⟩ := by
                    have : max g.sf (min g.su f) = g.su := by omega
                    show (⟨g.id, g.sec, g.sf, max g.sf (min g.su f), g.af, g.au⟩ : Ky) = _
                    rw [this]
                  have hbA := box_below wr (kB ⟨g.id, g.sec, g.sf, g.su, g.af, g.au⟩)
                  have hbB := hbA.trans ((box_below _ (kB ⟨g.id, g.sec, g.sf, g.su, g.af, g.au⟩)).mono hbA.size)
                  have HO4 := Lib.hid (own_below HO.out hbB)
                  have hk4 := ks_one (wr.alloc (kB ⟨g.id, g.sec, g.sf, g.su, g.af, g.au⟩)) ⟨g.id, g.sec, g.sf, g.su, g.af, g.au⟩
                  rw [World.size_alloc] at hk4
                  have HK4 := Lib.hid hk4
                  have HB4 := Lib.hid (HB.out.trans (hbB.mono HB.out.size))
                  rw [hcut] at HCm1
                  dsimp only [kB, kcells] at HO4 HK4 HB4
                  have HK0 := Lib.hid (kbc_new wr (kB g))
                  unfold kB kcells at HK0
                  have k0 := HK0.out.cell (i := 0) rfl
                  have k1 := HK0.out.cell (i := 1) rfl
                  have k2 := HK0.out.cell (i := 2) rfl
                  have k3 := HK0.out.cell (i := 3) rfl
                  have k4 := HK0.out.cell (i := 4) rfl
                  have k5 := HK0.out.cell (i := 5) rfl
                  have kf := HK0.out.frz (i := 3)
                  clear hcut hbA hbB hk4
                  go_wp2_with (at_builtin; refine app_ks _ HO4.out (.tmp 74) (.tmp 76) (some ⟨wr.heap.size + 1, 0, none⟩) 1 1 [⟨g.id, g.sec, g.sf, g.su, g.af, g.au⟩] ?_ ?_ ?_ ?_ ?_ ?_ ?_ ?_; exact rfl; exact rfl; exact rfl; exact rfl; exact HK4.out; omega; exact HB4.out.size; intro v5 w5 hown5 hb5)
                  rw [← kcs_app] at hown5
                  have HW5 := Lib.hid (show w5.ownsRow w.heap.size 31 6 v5 (C ++ [(⟨g.id, g.sec, g.sf, g.su, g.af, g.au⟩ : Ky)]).length (kcs (C ++ [⟨g.id, g.sec, g.sf, g.su, g.af, g.au⟩])) by rw [List.length_append]; exact hown5)
                  have HB5 := Lib.hid (HB4.out.trans hb5)
                  clear hown5 hb5 c0 c1 c2 c3 c4 c5 k0 k1 k2 k3 k4 k5 kf
                  go_wp2_with fail
                  go_roundw
                  case rel => exact ⟨k + 1, C ++ [⟨g.id, g.sec, g.sf, g.su, g.af, g.au⟩], by omega, by go_num, HN1, HCm1, HW5, HB5⟩
                  case measure => simp [intOf]; omega
          · obtain rfl : k = l.length := by omega
            have hh := (ixR_no (id := id) HN.out).2.1
            have hnw := nwE_ok HW.out HD.out hh
            have hcl : C.length ≤ 1000 := by rw [← HCm.out, List.length_map, List.length_take]; omega
            have hz := HZ.out
            by_cases d3 : u ≤ f
            · rw [rot_3 HQc.out hnw (by rw [HF.out, HU.out]; exact d3)] at hz
              obtain ⟨rfl, rfl⟩ := Prod.mk.inj hz
              clear hz hnw hh
              go_wp2_with fail
              go_ret2
              exact ⟨none, 0, rfl, ks_nil _, HB.out⟩
            · by_cases d4 : 16 ≤ l.length
              · rw [rot_4 HQc.out hnw (by rw [HF.out, HU.out]; exact d3) d4] at hz
                obtain ⟨rfl, rfl⟩ := Prod.mk.inj hz
                have d5 : (16 : Int) ≤ (l.length : Int) := by omega
                clear hz hnw hh
                go_wp2_with fail
                go_ret2
                exact ⟨none, 0, rfl, ks_nil _, HB.out⟩
              · rw [rot_5 HQc.out hnw (by rw [HF.out, HU.out]; exact d3) d4, HF.out, HU.out] at hz
                obtain ⟨hL, rfl⟩ := Prod.mk.inj hz
                have d5 : ¬ (16 : Int) ≤ (l.length : Int) := by omega
                obtain ⟨y, hy⟩ : ∃ y, addI u grace = y := ⟨_, rfl⟩
                have HY := Lib.hid hy
                have hny : newK id sec f u grace = ⟨id, sec, f, u, f, y⟩ := by rw [← hy]; rfl
                have HE := Lib.hid (show C ++ [newK id sec f u grace] = L by rw [← hL, ← HCm.out, List.take_length])
                rw [hny] at HE
                have hbA := box_below wr (kB ⟨id, sec, f, u, f, y⟩)
                have hbB := hbA.trans ((box_below _ (kB ⟨id, sec, f, u, f, y⟩)).mono hbA.size)
                have HO4 := Lib.hid (own_below HO.out hbB)
                have hk4 := ks_one (wr.alloc (kB ⟨id, sec, f, u, f, y⟩)) ⟨id, sec, f, u, f, y⟩
                rw [World.size_alloc] at hk4
                have HK4 := Lib.hid hk4
                have HB4 := Lib.hid (HB.out.trans (hbB.mono HB.out.size))
                dsimp only [kB, kcells] at HO4 HK4 HB4
                clear hz hnw hh hL hy hny hbA hbB hk4
                go_wp2_with fail
                refine (radd_k u grace y _ HY.out).mono ?_
                rintro e w' ⟨rfl, rfl⟩
                go_wp2_with (at_builtin; refine app_ks _ HO4.out (.tmp 95) (.tmp 97) (some ⟨wr.heap.size + 1, 0, none⟩) 1 1 [⟨id, sec, f, u, f, y⟩] ?_ ?_ ?_ ?_ ?_ ?_ ?_ ?_; exact rfl; exact rfl; exact rfl; exact rfl; exact HK4.out; omega; exact HB4.out.size; intro v5 w5 hown5 hb5)
                rw [← kcs_app] at hown5
                have HB5 := Lib.hid (HB4.out.trans hb5)
                have hown6 : w5.ownsRow w.heap.size 31 6 v5 (C ++ [(⟨id, sec, f, u, f, y⟩ : Ky)]).length (kcs (C ++ [⟨id, sec, f, u, f, y⟩])) := by rw [List.length_append]; exact hown5
                rw [HE.out] at hown6
                obtain ⟨bo, dap, e1, hat⟩ := ks_of_owns hown6
                subst e1
                have HA := Lib.hid hat
                clear hown5 hown6 hb5 hat
                go_wp2_with fail
                go_ret2
                exact ⟨bo, dap, rfl, HA.out, HB5.out⟩
  · have e0 : c ≠ 0 := by simpa using qz
    rw [rot_1 (by rw [qc]; exact e0), qc] at hz
    obtain ⟨rfl, rfl⟩ := Prod.mk.inj hz
    clear hz qc
    go_enter Tryz.func20, Tryz.ntmps20
    go_wp2_with fail
    refine (rcheck_k _ _ cap l _ _ H.out HS.out HQc.out).mono ?_
    rintro e w1 ⟨rfl, hb1⟩
    have HB1 := Lib.hid hb1
    clear hb1
    go_wp2_with fail
    go_ret2
    exact ⟨none, 0, rfl, ks_nil _, HB1.out⟩
end Go.Proofs.YtgepcbggkfjlgaaGreatDoor
end
