/-
  Proved: identitylaw28.ProofSpoilt returns true for all arguments (the tied card). No condition beyond the row's own.
-/
import Derived.Test.YtbogmmdmfbcbnaaDoorPrfLaws
import Derived.Deep.RegionHeld3
set_option linter.unusedVariables false
set_option linter.unusedSimpArgs false
set_option linter.unnecessarySimpa false
namespace Go.Proofs.YtbogmmdmfbcbnaaDoor
open Go.ChangeShapes Go.WideShapes Go.ChangeAt Go.RowKit Go.PlainAid
open Go.ChangeMaps (open_string shut_string)

theorem emp_no {s : ByteArray} (h : s ≠ ⟨#[]⟩) : s.toList.isEmpty = false := by
  rw [Bool.eq_false_iff]
  intro k
  have k : s.toList = [] := by simpa using k
  rw [Lib.toList_data] at k
  exact h (by rw [← Lib.mk_data s, k])
theorem rdA_all : ∀ (l : List UInt8) (acc : Nat), (rdA acc l).isSome = true ↔ ∀ c ∈ l, (hexO c).isSome = true
  | [], acc => by simp [rdA]
  | c :: l, acc => by
    unfold rdA
    cases h : hexO c with
    | none => simp [h]
    | some d =>
      show (rdA (acc * 16 + d) l).isSome = true ↔ _
      rw [rdA_all l]
      simp [h]
theorem rdE_all (l : List UInt8) : rdE l = 0 ↔ l.length = 16 ∧ ∀ c ∈ l, (hexO c).isSome = true := by
  unfold rdE rdO
  by_cases h : l.length = 16
  · rw [if_pos h, ← rdA_all l 0]
    cases (rdA 0 l).isSome <;> simp [h]
  · rw [if_neg h]
    simp [h]
theorem hexs : ∀ d : Nat, d < 16 → ∀ c ∈ ((⟨#[48, 49, 50, 51, 52, 53, 54, 55, 56, 57, 97, 98, 99, 100, 101, 102]⟩ : ByteArray).extract d (d + 1)).data.toList, (hexO c).isSome = true := by decide +kernel
theorem hexs_len : ∀ d : Nat, d < 16 → ((⟨#[48, 49, 50, 51, 52, 53, 54, 55, 56, 57, 97, 98, 99, 100, 101, 102]⟩ : ByteArray).extract d (d + 1)).data.toList.length = 1 := by decide +kernel
/-- a state of which one byte of the code is another hexadecimal digit names the same request -/
theorem spoilt_nm {s req c : ByteArray} {p k : Nat} (h : Nm s req) (hp : p < 16) (hk : s.size - 16 + p = k) (hc : c.data.toList.length = 1) (hh : ∀ x ∈ c.data.toList, (hexO x).isSome = true) :
    Nm (s.extract 0 k ++ c ++ s.extract (k + 1) s.size) req := by
  have hz := nm_size h
  obtain ⟨m, h1, h2, h3⟩ := h
  obtain ⟨hl, ha⟩ := (rdE_all m).1 h3
  refine ⟨m.take p ++ c.data.toList ++ m.drop (p + 1), ?_, h2, (rdE_all _).2 ⟨?_, ?_⟩⟩
  · have hk2 : k = req.data.toList.length + (1 + p) := by rw [← Lib.size_eq]; omega
    rw [Go.Joins.data_append, Go.Joins.data_append, Lib.extract_to_end, Lib.extract_data, List.drop_zero, Nat.sub_zero, h1, hk2]
    have e1 : (req.data.toList ++ 46 :: m).take (req.data.toList.length + (1 + p)) = req.data.toList ++ 46 :: m.take p := by
      rw [List.take_append, List.take_of_length_le (by omega)]
      congr 1
      rw [show req.data.toList.length + (1 + p) - req.data.toList.length = p + 1 by omega]; rfl
    have e2 : (req.data.toList ++ 46 :: m).drop (req.data.toList.length + (1 + p) + 1) = m.drop (p + 1) := by
      rw [List.drop_append, List.drop_of_length_le (by omega), List.nil_append, show req.data.toList.length + (1 + p) + 1 - req.data.toList.length = p + 1 + 1 by omega]; rfl
    rw [e1, e2]
    simp
  · rw [List.length_append, List.length_append, hc, List.length_take, List.length_drop, hl]; omega
  · intro x hx
    rcases List.mem_append.1 hx with hx | hx
    · rcases List.mem_append.1 hx with hx | hx
      · exact ha x (List.mem_of_mem_take hx)
      · exact hh x hx
    · exact ha x (List.mem_of_mem_drop hx)
set_option maxRecDepth 100000 in
set_option maxHeartbeats 16000000 in
theorem lpspoilt_s (sec : ByteArray) (ses : ByteArray) (req : ByteArray) (pl : Int) (dg : Int) (w : World) (hpl : (Lit.int .i64 pl).wf = true) (hdg : (Lit.int .i64 dg).wf = true) (ho : POk w) :
    Calls Tryd.prog 8 #[.string sec, .string ses, .string req, .int .i64 pl, .int .i64 dg] w fun e w' => e = .returned (.bool true) ∧ Below w.heap.size w w' := by
  obtain ⟨p0, p1⟩ := int_range hpl
  obtain ⟨d0, d1⟩ := int_range hdg
  have HB := Lib.hid (box_below w (.cells #[.string sec, .string ses, .string req] 9))
  have HO := Lib.hid (ho.below HB.out)
  clear ho
  obtain ⟨gl, hgl⟩ : ∃ gl, lgB [sec, ses, req] = gl := ⟨_, rfl⟩
  have HLg : Hid (Calls Tryd.prog 9 #[.slice (some ⟨w.heap.size, 0, none⟩) 3 3] (w.alloc (.cells #[.string sec, .string ses, .string req] 9)) fun e w' => e = .returned (.bool gl) ∧ w.alloc (.cells #[.string sec, .string ses, .string req] 9) = w') := Lib.hid (long_k w.heap.size 3 [sec, ses, req] gl _ (strs_new w [sec, ses, req]) rfl (by decide) hgl)
  cases gl with
  | true =>
    clear hgl
    go_enter Tryd.func8, Tryd.ntmps8
    go_wp2_with fail
    refine HLg.out.mono ?_
    rintro e w' ⟨rfl, rfl⟩
    go_wp2_with fail
    refine (live_s _ HO.out).mono ?_
    rintro e wc1 ⟨rfl, hb⟩
    have HB := Lib.hid (HB.out.trans (hb.mono HB.out.size))
    clear hb
    go_wp2_with fail
    go_ret
    exact ⟨rfl, HB.out⟩
  | false =>
    have hsz := lg_out hgl
    have z0 : sec.size ≤ 300 := hsz sec (by simp)
    have z1 : ses.size ≤ 300 := hsz ses (by simp)
    have z2 : req.size ≤ 300 := hsz req (by simp)
    clear hgl hsz
    by_cases hr : 0 ≤ pl ∧ pl ≤ 15 ∧ 0 ≤ dg ∧ dg ≤ 15
    · obtain ⟨r0, r1, r2, r3⟩ := hr
      obtain ⟨p, rfl⟩ := Int.eq_ofNat_of_zero_le r0
      obtain ⟨d, rfl⟩ := Int.eq_ofNat_of_zero_le r2
      have a1 : ¬ (p : Int) < 0 := by omega
      have a2 : ¬ (15 : Int) < (p : Int) := by omega
      have a3 : ¬ (d : Int) < 0 := by omega
      have a4 : ¬ (15 : Int) < (d : Int) := by omega
      have hp15 : p < 16 := by omega
      have hd15 : d < 16 := by omega
      obtain ⟨s, hs⟩ : ∃ s, bndS sec ses req = s := ⟨_, rfl⟩
      have HB1 := Lib.hid (fun W hW => bind_k sec ses req s W (by omega) (by omega) (by omega) hW hs)
      by_cases he : s = ⟨#[]⟩
      · have e3 : s.toList.isEmpty = true := by rw [he, Lib.toList_data]; rfl
        have z17 : (s.size : Int) < 17 := by rw [he]; decide
        clear hs he p0 p1 d0 d1 hpl hdg r0 r1 r2 r3
        go_enter Tryd.func8, Tryd.ntmps8
        go_wp2_with fail
        refine HLg.out.mono ?_
        rintro e w' ⟨rfl, rfl⟩
        go_wp2_with fail
        refine (HB1.out _ HO.out).mono ?_
        rintro e wc9 ⟨rfl, hb⟩
        have HB := Lib.hid (HB.out.trans (hb.mono HB.out.size))
        have HO := Lib.hid (HO.out.below hb)
        clear hb
        go_wp2_with fail
        refine (live_s _ HO.out).mono ?_
        rintro e wc2 ⟨rfl, hb⟩
        have HB := Lib.hid (HB.out.trans (hb.mono HB.out.size))
        clear hb
        go_wp2_with fail
        go_ret
        exact ⟨rfl, HB.out⟩
      · have hpp := bnd_ne (by rw [hs]; exact he)
        have hnm : Nm s req := by rw [← hs]; exact bnd_nm hpp.1 hpp.2
        have zs := nm_size hnm
        have z17 : ¬ (s.size : Int) < 17 := by omega
        obtain ⟨k, hk⟩ : ∃ k, s.size - 16 + p = k := ⟨_, rfl⟩
        obtain ⟨c, hc⟩ : ∃ c, (⟨#[48, 49, 50, 51, 52, 53, 54, 55, 56, 57, 97, 98, 99, 100, 101, 102]⟩ : ByteArray).extract d (d + 1) = c := ⟨_, rfl⟩
        have hcl := hexs_len d hd15
        have hch := hexs d hd15
        rw [hc] at hcl hch
        have zc : c.size = 1 := by rw [Lib.size_eq]; exact hcl
        have hnt := spoilt_nm hnm hp15 hk hcl hch
        obtain ⟨x1, hx1⟩ : ∃ x, s.extract 0 k = x := ⟨_, rfl⟩
        obtain ⟨x2, hx2⟩ : ∃ x, s.extract (k + 1) s.size = x := ⟨_, rfl⟩
        have zx1 : x1.size ≤ 1000 := by rw [← hx1, ByteArray.size_extract]; omega
        have zx2 : x2.size ≤ 1000 := by rw [← hx2, ByteArray.size_extract]; omega
        obtain ⟨t, ht⟩ : ∃ t, x1 ++ c ++ x2 = t := ⟨_, rfl⟩
        rw [hx1, hx2, ht] at hnt
        have zt : t.size ≤ 1000000 := by rw [nm_size hnt]; omega
        have w1 : IntKind.i64.wrap ((s.size : Int) - 16) = ((s.size - 16 : Nat) : Int) := by rw [IntWalk.i64_in _ (by omega)]; omega
        have w2 : IntKind.i64.wrap (((s.size - 16 : Nat) : Int) + (p : Int)) = (k : Int) := by rw [IntWalk.i64_in _ (by omega)]; omega
        have w3 : IntKind.i64.wrap ((k : Int) + 1) = ((k + 1 : Nat) : Int) := by rw [IntWalk.i64_in _ (by omega)]; omega
        have w4 : IntKind.i64.wrap ((d : Int) + 1) = ((d + 1 : Nat) : Int) := by rw [IntWalk.i64_in _ (by omega)]; omega
        have k1 : k < s.size := by omega
        have k2 : k ≤ s.size := by omega
        have k3 : (0 : Int) ≤ (k : Int) + 1 ∧ (k : Int) + 1 ≤ (s.size : Int) := by omega
        have HT := Lib.hid ht
        have b1 : ¬ 9223372036854775807 < x1.size + c.size := by omega
        have b2 : ¬ 9223372036854775807 < (x1 ++ c).size + x2.size := by rw [ByteArray.size_append]; omega
        have b3 : ¬ 9223372036854775807 < x1.size + c.size + x2.size := by omega
        have b4 : ¬ 9223372036854775807 < x1.size + 1 := by omega
        have b5 : ¬ 9223372036854775807 < x1.size + 1 + x2.size := by omega
        by_cases hts : t = s
        · have hx : BdE sec ses t (req, 0) := .inr ⟨req, hpp.1, hnt, by rw [if_pos (by rw [hs]; exact hts.symm)]⟩
          have HB2 := Lib.hid (fun W hW => bound_k sec ses t req 0 W (by omega) (by omega) zt hW hx)
          have q1 : (t.toList == s.toList) = true := by rw [hts]; exact beq_s s
          have q2 := beq_s req
          clear hs he hpp hnm zs hk hcl hch hnt ht hts hx p0 p1 d0 d1 hpl hdg r0 r1 r2 r3
          go_enter Tryd.func8, Tryd.ntmps8
          go_wp2_with fail
          refine HLg.out.mono ?_
          rintro e w' ⟨rfl, rfl⟩
          go_wp2_with fail
          refine (HB1.out _ HO.out).mono ?_
          rintro e wc10 ⟨rfl, hb⟩
          have HB := Lib.hid (HB.out.trans (hb.mono HB.out.size))
          have HO := Lib.hid (HO.out.below hb)
          clear hb
          go_wp2_with fail
          have HB := Lib.hid (HB.out.trans ((Below.refl _ _).drew.mono HB.out.size))
          have HO := Lib.hid (HO.out.below (Below.refl _ _).drew)
          refine wp_region_held_drew (S := fun _ => True) (by kernel_rfl) (trivial) (fun hS => ?_)
          refine wpAnyH_take (i := 0) (oi := { dst := some 60, op := _, type := _, pos := _, after := _, guard := _ }) (v := ?_) rfl (by kernel_rfl) (by kernel_rfl) (by kernel_rfl) (fun _ _ _ h => h) (Or.inl ⟨by rfl, ?_⟩) (by assumption) ?_
          rotate_left
          · intro w hSw
            try dsimp only at hSw
            go_simp
            try with_reducible rfl
          try simp only [Act.put, List.setIfInBounds_toArray, List.set_cons_zero, List.set_cons_succ]
          refine wpAnyH_take (i := 1) (oi := { dst := some 61, op := _, type := _, pos := _, after := _, guard := _ }) (v := ?_) rfl (by kernel_rfl) (by kernel_rfl) (by kernel_rfl) (fun _ _ _ h => h) (Or.inl ⟨by rfl, ?_⟩) (by assumption) ?_
          rotate_left
          · intro w hSw
            try dsimp only at hSw
            go_simp
            try with_reducible rfl
          try simp only [Act.put, List.setIfInBounds_toArray, List.set_cons_zero, List.set_cons_succ]
          refine wpAnyH_take (i := 2) (oi := { dst := some 62, op := _, type := _, pos := _, after := _, guard := _ }) (v := ?_) rfl (by kernel_rfl) (by kernel_rfl) (by kernel_rfl) (fun _ _ _ h => h) (Or.inl ⟨by rfl, ?_⟩) (by assumption) ?_
          rotate_left
          · intro w hSw
            try dsimp only at hSw
            go_simp
            try with_reducible rfl
          try simp only [Act.put, List.setIfInBounds_toArray, List.set_cons_zero, List.set_cons_succ]
          refine wpAnyH_take (i := 3) (oi := { dst := some 63, op := _, type := _, pos := _, after := _, guard := _ }) (v := ?_) rfl (by kernel_rfl) (by kernel_rfl) (by kernel_rfl) (fun _ _ _ h => h) (Or.inl ⟨by rfl, ?_⟩) (by assumption) ?_
          rotate_left
          · intro w hSw
            try dsimp only at hSw
            go_simp
            try with_reducible rfl
          try simp only [Act.put, List.setIfInBounds_toArray, List.set_cons_zero, List.set_cons_succ]
          refine wpAnyH_take (i := 4) (oi := { dst := some 64, op := _, type := _, pos := _, after := _, guard := _ }) (v := ?_) rfl (by kernel_rfl) (by kernel_rfl) (by kernel_rfl) (fun _ _ _ h => h) (Or.inl ⟨by rfl, ?_⟩) (by assumption) ?_
          rotate_left
          · intro w hSw
            try dsimp only at hSw
            go_simp
            try with_reducible rfl
          try simp only [Act.put, List.setIfInBounds_toArray, List.set_cons_zero, List.set_cons_succ]
          refine wpAnyH_take (i := 5) (oi := { dst := some 65, op := _, type := _, pos := _, after := _, guard := _ }) (v := ?_) rfl (by kernel_rfl) (by kernel_rfl) (by kernel_rfl) (fun _ _ _ h => h) (Or.inl ⟨by rfl, ?_⟩) (by assumption) ?_
          rotate_left
          · intro w hSw
            try dsimp only at hSw
            go_simp
            try with_reducible rfl
          try simp only [Act.put, List.setIfInBounds_toArray, List.set_cons_zero, List.set_cons_succ]
          refine wpAnyH_take (i := 6) (oi := { dst := some 66, op := _, type := _, pos := _, after := _, guard := _ }) (v := ?_) rfl (by kernel_rfl) (by kernel_rfl) (by kernel_rfl) (fun _ _ _ h => h) (Or.inl ⟨by rfl, ?_⟩) (by assumption) ?_
          rotate_left
          · intro w hSw
            try dsimp only at hSw
            go_simp
            try with_reducible rfl
          try simp only [Act.put, List.setIfInBounds_toArray, List.set_cons_zero, List.set_cons_succ]
          refine wpAnyH_take (i := 7) (oi := { dst := some 67, op := _, type := _, pos := _, after := _, guard := _ }) (v := ?_) rfl (by kernel_rfl) (by kernel_rfl) (by kernel_rfl) (fun _ _ _ h => h) (Or.inl ⟨by rfl, ?_⟩) (by assumption) ?_
          rotate_left
          · intro w hSw
            try dsimp only at hSw
            go_simp
            try with_reducible rfl
          try simp only [Act.put, List.setIfInBounds_toArray, List.set_cons_zero, List.set_cons_succ]
          refine wpAnyH_take (i := 8) (oi := { dst := some 68, op := _, type := _, pos := _, after := _, guard := _ }) (v := ?_) rfl (by kernel_rfl) (by kernel_rfl) (by kernel_rfl) (fun _ _ _ h => h) (Or.inl ⟨by rfl, ?_⟩) (by assumption) ?_
          rotate_left
          · intro w hSw
            try dsimp only at hSw
            go_simp
            try with_reducible rfl
          try simp only [Act.put, List.setIfInBounds_toArray, List.set_cons_zero, List.set_cons_succ]
          refine wpAnyH_take (i := 9) (oi := { dst := some 69, op := _, type := _, pos := _, after := _, guard := _ }) (v := ?_) rfl (by kernel_rfl) (by kernel_rfl) (by kernel_rfl) (fun _ _ _ h => h) (Or.inl ⟨by rfl, ?_⟩) (by assumption) ?_
          rotate_left
          · intro w hSw
            try dsimp only at hSw
            go_simp
            try with_reducible rfl
          try simp only [Act.put, List.setIfInBounds_toArray, List.set_cons_zero, List.set_cons_succ]
          refine wpAnyH_take (i := 10) (oi := { dst := some 14, op := _, type := _, pos := _, after := _, guard := _ }) (v := ?_) rfl (by kernel_rfl) (by kernel_rfl) (by kernel_rfl) (fun _ _ _ h => h) (Or.inl ⟨by rfl, ?_⟩) (by assumption) ?_
          rotate_left
          · intro w hSw
            try dsimp only at hSw
            go_simp
            try with_reducible rfl
          try simp only [Act.put, List.setIfInBounds_toArray, List.set_cons_zero, List.set_cons_succ]
          refine wpAnyH_done (by kernel_rfl) ?_ _
          go_wp2_with fail
          try rw [HT.out]
          refine (HB2.out _ HO.out).mono ?_
          rintro e wc11 ⟨rfl, hb⟩
          have HB := Lib.hid (HB.out.trans (hb.mono HB.out.size))
          have HO := Lib.hid (HO.out.below hb)
          clear hb
          go_wp2_with fail
          refine (live_s _ HO.out).mono ?_
          rintro e wc3 ⟨rfl, hb⟩
          have HB := Lib.hid (HB.out.trans (hb.mono HB.out.size))
          clear hb
          go_wp2_with fail
          go_ret
          exact ⟨rfl, HB.out⟩
        · have hx : BdE sec ses t (⟨#[]⟩, 20) := .inr ⟨req, hpp.1, hnt, by rw [if_neg (by rw [hs]; exact fun e => hts e.symm)]⟩
          have HB2 := Lib.hid (fun W hW => bound_k sec ses t ⟨#[]⟩ 20 W (by omega) (by omega) zt hW hx)
          obtain ⟨q1, _⟩ := str_ne hts
          clear hs he hpp hnm zs hk hcl hch hnt ht hts hx p0 p1 d0 d1 hpl hdg r0 r1 r2 r3
          go_enter Tryd.func8, Tryd.ntmps8
          go_wp2_with fail
          refine HLg.out.mono ?_
          rintro e w' ⟨rfl, rfl⟩
          go_wp2_with fail
          refine (HB1.out _ HO.out).mono ?_
          rintro e wc12 ⟨rfl, hb⟩
          have HB := Lib.hid (HB.out.trans (hb.mono HB.out.size))
          have HO := Lib.hid (HO.out.below hb)
          clear hb
          go_wp2_with fail
          have HB := Lib.hid (HB.out.trans ((Below.refl _ _).drew.mono HB.out.size))
          have HO := Lib.hid (HO.out.below (Below.refl _ _).drew)
          refine wp_region_held_drew (S := fun _ => True) (by kernel_rfl) (trivial) (fun hS => ?_)
          refine wpAnyH_take (i := 0) (oi := { dst := some 60, op := _, type := _, pos := _, after := _, guard := _ }) (v := ?_) rfl (by kernel_rfl) (by kernel_rfl) (by kernel_rfl) (fun _ _ _ h => h) (Or.inl ⟨by rfl, ?_⟩) (by assumption) ?_
          rotate_left
          · intro w hSw
            try dsimp only at hSw
            go_simp
            try with_reducible rfl
          try simp only [Act.put, List.setIfInBounds_toArray, List.set_cons_zero, List.set_cons_succ]
          refine wpAnyH_take (i := 1) (oi := { dst := some 61, op := _, type := _, pos := _, after := _, guard := _ }) (v := ?_) rfl (by kernel_rfl) (by kernel_rfl) (by kernel_rfl) (fun _ _ _ h => h) (Or.inl ⟨by rfl, ?_⟩) (by assumption) ?_
          rotate_left
          · intro w hSw
            try dsimp only at hSw
            go_simp
            try with_reducible rfl
          try simp only [Act.put, List.setIfInBounds_toArray, List.set_cons_zero, List.set_cons_succ]
          refine wpAnyH_take (i := 2) (oi := { dst := some 62, op := _, type := _, pos := _, after := _, guard := _ }) (v := ?_) rfl (by kernel_rfl) (by kernel_rfl) (by kernel_rfl) (fun _ _ _ h => h) (Or.inl ⟨by rfl, ?_⟩) (by assumption) ?_
          rotate_left
          · intro w hSw
            try dsimp only at hSw
            go_simp
            try with_reducible rfl
          try simp only [Act.put, List.setIfInBounds_toArray, List.set_cons_zero, List.set_cons_succ]
          refine wpAnyH_take (i := 3) (oi := { dst := some 63, op := _, type := _, pos := _, after := _, guard := _ }) (v := ?_) rfl (by kernel_rfl) (by kernel_rfl) (by kernel_rfl) (fun _ _ _ h => h) (Or.inl ⟨by rfl, ?_⟩) (by assumption) ?_
          rotate_left
          · intro w hSw
            try dsimp only at hSw
            go_simp
            try with_reducible rfl
          try simp only [Act.put, List.setIfInBounds_toArray, List.set_cons_zero, List.set_cons_succ]
          refine wpAnyH_take (i := 4) (oi := { dst := some 64, op := _, type := _, pos := _, after := _, guard := _ }) (v := ?_) rfl (by kernel_rfl) (by kernel_rfl) (by kernel_rfl) (fun _ _ _ h => h) (Or.inl ⟨by rfl, ?_⟩) (by assumption) ?_
          rotate_left
          · intro w hSw
            try dsimp only at hSw
            go_simp
            try with_reducible rfl
          try simp only [Act.put, List.setIfInBounds_toArray, List.set_cons_zero, List.set_cons_succ]
          refine wpAnyH_take (i := 5) (oi := { dst := some 65, op := _, type := _, pos := _, after := _, guard := _ }) (v := ?_) rfl (by kernel_rfl) (by kernel_rfl) (by kernel_rfl) (fun _ _ _ h => h) (Or.inl ⟨by rfl, ?_⟩) (by assumption) ?_
          rotate_left
          · intro w hSw
            try dsimp only at hSw
            go_simp
            try with_reducible rfl
          try simp only [Act.put, List.setIfInBounds_toArray, List.set_cons_zero, List.set_cons_succ]
          refine wpAnyH_take (i := 6) (oi := { dst := some 66, op := _, type := _, pos := _, after := _, guard := _ }) (v := ?_) rfl (by kernel_rfl) (by kernel_rfl) (by kernel_rfl) (fun _ _ _ h => h) (Or.inl ⟨by rfl, ?_⟩) (by assumption) ?_
          rotate_left
          · intro w hSw
            try dsimp only at hSw
            go_simp
            try with_reducible rfl
          try simp only [Act.put, List.setIfInBounds_toArray, List.set_cons_zero, List.set_cons_succ]
          refine wpAnyH_take (i := 7) (oi := { dst := some 67, op := _, type := _, pos := _, after := _, guard := _ }) (v := ?_) rfl (by kernel_rfl) (by kernel_rfl) (by kernel_rfl) (fun _ _ _ h => h) (Or.inl ⟨by rfl, ?_⟩) (by assumption) ?_
          rotate_left
          · intro w hSw
            try dsimp only at hSw
            go_simp
            try with_reducible rfl
          try simp only [Act.put, List.setIfInBounds_toArray, List.set_cons_zero, List.set_cons_succ]
          refine wpAnyH_take (i := 8) (oi := { dst := some 68, op := _, type := _, pos := _, after := _, guard := _ }) (v := ?_) rfl (by kernel_rfl) (by kernel_rfl) (by kernel_rfl) (fun _ _ _ h => h) (Or.inl ⟨by rfl, ?_⟩) (by assumption) ?_
          rotate_left
          · intro w hSw
            try dsimp only at hSw
            go_simp
            try with_reducible rfl
          try simp only [Act.put, List.setIfInBounds_toArray, List.set_cons_zero, List.set_cons_succ]
          refine wpAnyH_take (i := 9) (oi := { dst := some 69, op := _, type := _, pos := _, after := _, guard := _ }) (v := ?_) rfl (by kernel_rfl) (by kernel_rfl) (by kernel_rfl) (fun _ _ _ h => h) (Or.inl ⟨by rfl, ?_⟩) (by assumption) ?_
          rotate_left
          · intro w hSw
            try dsimp only at hSw
            go_simp
            try with_reducible rfl
          try simp only [Act.put, List.setIfInBounds_toArray, List.set_cons_zero, List.set_cons_succ]
          refine wpAnyH_take (i := 10) (oi := { dst := some 14, op := _, type := _, pos := _, after := _, guard := _ }) (v := ?_) rfl (by kernel_rfl) (by kernel_rfl) (by kernel_rfl) (fun _ _ _ h => h) (Or.inl ⟨by rfl, ?_⟩) (by assumption) ?_
          rotate_left
          · intro w hSw
            try dsimp only at hSw
            go_simp
            try with_reducible rfl
          try simp only [Act.put, List.setIfInBounds_toArray, List.set_cons_zero, List.set_cons_succ]
          refine wpAnyH_done (by kernel_rfl) ?_ _
          go_wp2_with fail
          try rw [HT.out]
          refine (HB2.out _ HO.out).mono ?_
          rintro e wc13 ⟨rfl, hb⟩
          have HB := Lib.hid (HB.out.trans (hb.mono HB.out.size))
          have HO := Lib.hid (HO.out.below hb)
          clear hb
          go_wp2_with fail
          refine (live_s _ HO.out).mono ?_
          rintro e wc4 ⟨rfl, hb⟩
          have HB := Lib.hid (HB.out.trans (hb.mono HB.out.size))
          clear hb
          go_wp2_with fail
          go_ret
          exact ⟨rfl, HB.out⟩
    · have hor : pl < 0 ∨ 15 < pl ∨ dg < 0 ∨ 15 < dg := by omega
      clear hr p0 p1 d0 d1 hpl hdg
      by_cases a1 : pl < 0
      · skip
        go_enter Tryd.func8, Tryd.ntmps8
        go_wp2_with fail
        refine HLg.out.mono ?_
        rintro e w' ⟨rfl, rfl⟩
        go_wp2_with fail
        refine (live_s _ HO.out).mono ?_
        rintro e wc5 ⟨rfl, hb⟩
        have HB := Lib.hid (HB.out.trans (hb.mono HB.out.size))
        clear hb
        go_wp2_with fail
        go_ret
        exact ⟨rfl, HB.out⟩
      · by_cases a2 : 15 < pl
        · skip
          go_enter Tryd.func8, Tryd.ntmps8
          go_wp2_with fail
          refine HLg.out.mono ?_
          rintro e w' ⟨rfl, rfl⟩
          go_wp2_with fail
          refine (live_s _ HO.out).mono ?_
          rintro e wc6 ⟨rfl, hb⟩
          have HB := Lib.hid (HB.out.trans (hb.mono HB.out.size))
          clear hb
          go_wp2_with fail
          go_ret
          exact ⟨rfl, HB.out⟩
        · by_cases a3 : dg < 0
          · skip
            go_enter Tryd.func8, Tryd.ntmps8
            go_wp2_with fail
            refine HLg.out.mono ?_
            rintro e w' ⟨rfl, rfl⟩
            go_wp2_with fail
            refine (live_s _ HO.out).mono ?_
            rintro e wc7 ⟨rfl, hb⟩
            have HB := Lib.hid (HB.out.trans (hb.mono HB.out.size))
            clear hb
            go_wp2_with fail
            go_ret
            exact ⟨rfl, HB.out⟩
          · have a4 : 15 < dg := by omega
            go_enter Tryd.func8, Tryd.ntmps8
            go_wp2_with fail
            refine HLg.out.mono ?_
            rintro e w' ⟨rfl, rfl⟩
            go_wp2_with fail
            refine (live_s _ HO.out).mono ?_
            rintro e wc8 ⟨rfl, hb⟩
            have HB := Lib.hid (HB.out.trans (hb.mono HB.out.size))
            clear hb
            go_wp2_with fail
            go_ret
            exact ⟨rfl, HB.out⟩

theorem lpspoilt_types : ∀ t ∈ [9, 9, 9, 3, 3], Tryd.prog.readableRec t = true ∧ t < Tryd.prog.types.size := by
  have h : ([9, 9, 9, 3, 3].all fun t => Tryd.prog.readableRec t && decide (t < Tryd.prog.types.size)) = true := by kernel_rfl
  intro t ht
  have := List.all_eq_true.1 h t ht
  simpa using this

set_option maxRecDepth 100000 in
theorem lpspoilt_contract (H : Type) (enc : TypeId × Value → H) (W : World) (base : Nat) (args : Array Value) (ds gs : List (DataW H)) (before : List MemPlace)
    (hval : ∀ (j : Nat) t v, Tryd.f8.params[j]? = some t → args[j]? = some v → Value.okWide Tryd.prog W .any base t v)
    (hW : DataW.Whole enc Tryd.prog Tryd.f8.params.toList Rows.proofSpoiltSpec.vars false W args.toList ds gs before) (hL : laidMetH Tryd.prog Rows.proofSpoiltRow.laid W) (hsh : W.ShapedOpen Tryd.prog) :
    Calls Tryd.prog 8 args W fun e W' => ∃ v, e = .returned v ∧ Rows.proofSpoiltSpec.post enc Tryd.prog Tryd.f8 false true false false W args v W' := by
  have hW' := hW
  obtain ⟨p, q, hA0, hV, rfl, hfz, hnd⟩ := hW
  have hA : DataW.TrodAll enc Tryd.prog W 0 (fun _ => true) true Tryd.f8.params.toList args.toList ds p := hA0
  obtain ⟨rfl, rfl⟩ := trodVars_none hV
  simp only [List.append_nil] at hW'
  have hlt : ∀ x ∈ p, x.block < W.heap.size := fun x hx => by simpa using hW'.lt x hx
  have fin : ∀ W', Below W.heap.size W W' → DataW.TrodAll enc Tryd.prog W' 0 (fun b => decide (b < W.heap.size)) true [9, 9, 9, 3, 3] args.toList ds p := fun W' hb => by
    rw [Tryd.params8] at hA
    exact trodAll_below hb _ _ _ _ lpspoilt_types hA hlt
  clear hA0
  rw [Tryd.params8] at hA hval
  obtain ⟨v0, vs0, d0, ds0, p0, q0, hargs, rfl, hp0, h0, r0⟩ := trodAll_cons hA
  obtain ⟨v1, vs1, d1, ds1, p1, q1, rfl, rfl, hp1, h1, r1⟩ := trodAll_cons r0
  obtain ⟨v2, vs2, d2, ds2, p2, q2, rfl, rfl, hp2, h2, r2⟩ := trodAll_cons r1
  obtain ⟨v3, vs3, d3, ds3, p3, q3, rfl, rfl, hp3, h3, r3⟩ := trodAll_cons r2
  obtain ⟨v4, vs4, d4, ds4, p4, q4, rfl, rfl, hp4, h4, r4⟩ := trodAll_cons r3
  obtain ⟨rfl, rfl, rfl⟩ := trodAll_nil r4
  obtain rfl : args = #[v0, v1, v2, v3, v4] := by cases args; simp_all
  obtain ⟨sec, rfl, rfl, rfl, hs0⟩ := open_string Tryd.underlying9 (hval 0 9 v0 rfl rfl) h0
  obtain ⟨ses, rfl, rfl, rfl, hs1⟩ := open_string Tryd.underlying9 (hval 1 9 v1 rfl rfl) h1
  obtain ⟨req, rfl, rfl, rfl, hs2⟩ := open_string Tryd.underlying9 (hval 2 9 v2 rfl rfl) h2
  obtain ⟨pl, rfl, rfl, rfl, hs3⟩ := open_int Tryd.underlying3 (hval 3 3 v3 rfl rfl) h3
  obtain ⟨dg, rfl, rfl, rfl, hs4⟩ := open_int Tryd.underlying3 (hval 4 3 v4 rfl rfl) h4
  refine (lpspoilt_s sec ses req pl dg W hs3 hs4 ⟨max_ok hsh, pow_of hL⟩).mono fun e W' ⟨he, hb⟩ => ?_
  subst he
  exact ⟨_, rfl, _, _, _, [], p, [], hW', trodAll_mk1 (shut_bool Tryd.underlying4 _), fin W' hb, rfl, hb.frame _, fun h => by cases h⟩

set_option maxRecDepth 100000 in
theorem lpspoilt_lifted (os : Os) (started : os.Started) (H : Type) (enc : TypeId × Value → H) (F : Stop.Interp) :
    ReturnsInHanded {} Tryd.checked os 8 .any ((OpenSpec.ofChange Rows.proofSpoiltSpec).preRow enc Tryd.prog Tryd.f8 Rows.proofSpoiltRow.domain false Rows.proofSpoiltRow.laid) (((OpenSpec.ofChange Rows.proofSpoiltSpec).at F).post enc Tryd.prog Tryd.f8 false true false false) := by
  refine returnsInHanded_of_row (C := Tryd.checked) (s := OpenSpec.ofChange Rows.proofSpoiltSpec) own started (by kernel_rfl) Tryd.func8
    (witness_row (enc := enc) (C := Tryd.checked) false (World.laidAll Tryd.prog os Rows.proofSpoiltRow.laid) #[.string ⟨#[]⟩, .string ⟨#[]⟩, .string ⟨#[]⟩, .int .i64 0, .int .i64 0] (World.laidAll_os _ _ _)
      (World.shaped_of_ZipB (by kernel_rfl) (by kernel_rfl)) (by kernel_rfl)
      (OpenSpec.preRow_of_cond 8 (x := ([.lit (.string []), .lit (.string []), .lit (.string []), .lit (.int .i64 0), .lit (.int .i64 0)], [], [])) (by kernel_rfl) (by kernel_rfl) (fun k hk => by cases hk) (by kernel_rfl)
        (by rw [MakeChecks.laidMetH_plain _ _ _ (by kernel_rfl)]; exact laidMet_laidAll _ (by kernel_rfl) (by kernel_rfl)))) ?_
  intro W base args ds gs before hval hW _ _ _ hL hsh _
  exact lpspoilt_contract H enc W base args ds gs before hval hW hL hsh

set_option maxRecDepth 100000 in
theorem lpspoilt_said : Rows.ProofSpoiltSaid :=
  OpenClaim.holds_of_cond 8 Tryd.f8 rfl rfl rfl rfl rfl rfl rfl ⟨rfl, rfl, rfl, rfl, rfl⟩ rfl rfl rfl rfl rfl (by kernel_rfl) Tryd.func8 (by kernel_rfl)
    (of_decide_eq_true (by kernel_rfl)) (by unfold Func.isWrapper; first | (rw [if_pos (by decide +kernel)]; kernel_rfl) | (rw [if_neg (by decide +kernel)]; exact ⟨rfl, rfl⟩))
    (fun os started H enc _ F => by rw [OpenClaim.pre_eq_preRow]; exact lpspoilt_lifted os started H enc F)

set_option maxRecDepth 100000 in
theorem lpspoilt_plain (f : FuncId) (fn : Func) (hf : Tryd.pinned.checked.prog.funcNamed "identity/identitylaw28.ProofSpoilt" = some f) (hfn : Tryd.pinned.checked.prog.funcs[f]? = some fn) :
    false = Tryd.pinned.checked.prog.looks [] ∧ ∀ (j : Nat) t, fn.params[j]? = some t → Tryd.pinned.checked.prog.wantsStandIn t = false := by
  obtain rfl : f = 8 := Option.some.inj ((show Tryd.prog.funcNamed "identity/identitylaw28.ProofSpoilt" = some 8 by kernel_rfl).symm.trans hf) |>.symm
  obtain rfl : fn = Tryd.f8 := (Option.some.inj (Tryd.func8.symm.trans hfn)).symm
  refine ⟨by kernel_rfl, fun j t ht => ?_⟩
  rw [Tryd.params8] at ht
  have hm : t ∈ [9, 9, 9, 3, 3] := by simpa using Array.mem_of_getElem? ht
  have hall : ([9, 9, 9, 3, 3].all fun u => !Tryd.prog.wantsStandIn u) = true := by kernel_rfl
  exact (show Tryd.prog.wantsStandIn t = false by simpa using List.all_eq_true.1 hall t hm)

/-- THE CARD -/
theorem lpspoilt_card : Rows.ProofSpoiltCardSaid :=
  Claim7.holds_tied_plain_at .later [] _ _ _ _ lpspoilt_said (fun _ h => by cases h) (by kernel_rfl) (fun _ h => by cases h) proofSpoilt_row_tie rfl ⟨rfl, rfl⟩ (by kernel_rfl) rfl lpspoilt_plain (by kernel_rfl)
end Go.Proofs.YtbogmmdmfbcbnaaDoor
