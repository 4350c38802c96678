/-
  Contract of the specification's Clear. Condition: at most 256 users.
-/
import Derived.Test.YtclecajbcmmddaaSlkC
set_option maxRecDepth 100000
set_option linter.unusedVariables false
set_option linter.unusedSimpArgs false
set_option linter.unnecessarySimpa false
namespace Go.Proofs.Ytclecajbcmmddaa
open Go.RowKit Go.PlainAid

theorem rr_slice {w : World} {base n : Nat} {v : Value} {xs : List Value} (h : w.ownsRow base 65 3 v n xs) : ∃ ao cap, v = .slice ao n cap := by
  rcases h.2 with ⟨e, rfl⟩ | ⟨g, cap, cur, e, _⟩
  · exact ⟨none, 0, e⟩
  · exact ⟨_, cap, e⟩
theorem rr_one (L : List Rr) : ∀ x ∈ rrcs L, (∀ r ∈ L, r.v.oneCell' = true) → x.oneCell' = true := by
  intro x hx hv
  obtain ⟨r, hr, hx⟩ := List.mem_flatMap.1 hx
  simp [rrc] at hx
  rcases hx with rfl | rfl | rfl
  · rfl
  · exact hv r hr
  · rfl
theorem ir_cell {W : World} {v : Value} {l : List Int} (h : IR W v l) : v.oneCell' = true := by
  rcases h with ⟨rfl, _⟩ | ⟨b, off, cap, rfl, _⟩ <;> rfl
theorem rrcs_take (L : List Rr) (k : Nat) (h : k ≤ L.length) : ∀ (j : Nat) (x : Value), (rrcs (L.take k))[j]? = some x → (rrcs L)[j]? = some x := by
  intro j x hx
  have e : rrcs L = rrcs (L.take k) ++ rrcs (L.drop k) := by rw [← rrcs_app, List.take_append_drop]
  rw [e, List.getElem?_append_left (List.getElem?_eq_some_iff.1 hx).1]; exact hx
theorem rrcs_drop (L : List Rr) (k : Nat) (h : k ≤ L.length) : ∀ (j : Nat) (x : Value), (rrcs (L.drop k))[j]? = some x → (rrcs L)[k * 3 + j]? = some x := by
  intro j x hx
  have e : rrcs L = rrcs (L.take k) ++ rrcs (L.drop k) := by rw [← rrcs_app, List.take_append_drop]
  have hl : (rrcs (L.take k)).length = k * 3 := by rw [rrcs_len, List.length_take, Nat.min_eq_left h]
  rw [e, List.getElem?_append_right (by omega), hl, show k * 3 + j - k * 3 = j by omega]; exact hx
/-- the object behind a store of new records -/
theorem RX.put {S : Nat → Prop} {w V : World} {b : Nat} {most win lock : Int} {L L' : List Rr} {v v' : Value} (h : RX w S b most win lock L v) (hb : Below w.heap.size w V) (hsub : ∀ r ∈ L', r ∈ L) (ho : V.ownsRow w.heap.size 65 3 v' L'.length (rrcs L')) :
    RX (V.setCell ⟨b, 4, none⟩ v') (nw S w (V.setCell ⟨b, 4, none⟩ v')) b most win lock L' v' ∧ Fo S w (V.setCell ⟨b, 4, none⟩ v') := by
  have hsz : (V.setCell ⟨b, 4, none⟩ v').heap.size = V.heap.size := by simp [World.setCell]
  have hbl := h.obj.big
  have hg : ∀ g, v'.ownBlock = some g → w.heap.size ≤ g ∧ g < V.heap.size := fun g e => ho.lt g e
  refine ⟨⟨?_, .inl h.sb, ?_, fun g e => ⟨.inr ⟨(hg g e).1, by rw [hsz]; exact (hg g e).2⟩, by have := (hg g e).1; omega⟩, fun r hr => ?_, fun r hr g e => ?_⟩, ?_⟩
  · exact KbC.set (i := 4) (h.obj.step hb) v'
  · have h0 := ho
    obtain ⟨h1, h2⟩ := ho
    refine ⟨h1, ?_⟩
    rcases h2 with h2 | ⟨g, cap, cur, rfl, h3, h4, h5⟩
    · exact .inl h2
    · exact .inr ⟨g, cap, cur, rfl, Nat.zero_le _, (heap_setCell_other V ⟨b, 4, none⟩ g _ (by have := (hg g rfl).1; show g ≠ b; omega)).trans h4, h5⟩
  · exact (h.tm r (hsub r hr)).keep (by rw [hsz]; exact hb.size) fun g e => (heap_setCell_other V ⟨b, 4, none⟩ g v' (h.tmS r (hsub r hr) g e).2.1).trans (hb.block g ((h.tm r (hsub r hr)).lt e))
  · have := h.tmS r (hsub r hr) g e
    refine ⟨.inl this.1, this.2.1, fun q => ?_⟩
    have h5 := (hg g q).1
    have h6 := (h.tm r (hsub r hr)).lt e
    omega
  · exact ⟨hb.os, hb.tape, hb.output, by rw [hsz]; exact hb.size, fun k hk hn => (heap_setCell_other V ⟨b, 4, none⟩ k v' (fun e => hn (by have e : k = b := e; rw [e]; exact h.sb))).trans (hb.block k hk)⟩
set_option maxHeartbeats 8000000 in
theorem rclear_k (S : Nat → Prop) (b : Nat) (most win lock : Int) (A A' : Us) (u : ByteArray) (w : World) (h : RL w S b most win lock A) (hok : UsOk A) (hA : clearA A u = A') :
    Calls Try.prog 11 #[.pointer (some ⟨b, 0, none⟩), .string u] w fun e w' => e = .returned (.tuple #[]) ∧ RL w' (nw S w w') b most win lock A' ∧ Fo S w w' := by
  obtain ⟨L, v, hx, rfl⟩ := h
  have HX := Lib.hid hx
  have hlen := hok.len
  rw [List.length_map] at hlen
  rcases find_cases L u with ⟨k, h1, h2, h3, h4, h5⟩ | ⟨h3, h4, h5⟩
  · have HA := Lib.hid (show A' = (L.take k ++ L.drop (k + 1)).map rrU by rw [← hA]; exact clear_at hok.nod h1 h2)
    have HI := Lib.hid h4
    obtain ⟨ao, cap, rfl, s1, s2, s3⟩ := hx.shape
    obtain ⟨g, rfl, hgb, hc⟩ := s3 (by omega)
    have hown := hx.own
    have hgl := (hown.lt g rfl).2
    obtain ⟨_, _, _, _, c4⟩ := hx.flat
    have hbb := hx.obj.big
    unfold maxLen at s2
    have HSt : Hid (∀ V, Below w.heap.size w V → V.cell? ⟨b, 4, none⟩ = some (.slice (some ⟨g, 0, none⟩) L.length cap)) := Lib.hid fun V hV => (hV.cell (p := ⟨b, 4, none⟩) hbb).trans c4
    have HFr : Hid (∀ V, Below w.heap.size w V → V.frozen? ⟨b, 4, none⟩ = false) := Lib.hid fun V hV => KbC.frz (hx.obj.step hV)
    have hcl : ∀ V, Below w.heap.size w V → ∀ (j : Nat) (x : Value), (rrcs L)[j]? = some x → V.cell? ((⟨g, 0, none⟩ : Addr).add j) = some x := fun V hV j x hj => by
      have := hown.cells (g := g) rfl j x hj
      rw [Go.WideShapes.add_plain] at this ⊢
      exact (hV.cell (p := ⟨g, 0 + j, none⟩) hgl).trans this
    have HN1 : Hid (∀ V, Below w.heap.size w V → ∀ (j : Nat) (x : Value), (rrcs (L.take k))[j]? = some x → V.cell? ((⟨g, 0, none⟩ : Addr).add j) = some x) := Lib.hid fun V hV j x hj => hcl V hV j x (rrcs_take L k (by omega) j x hj)
    have hn2 : ∀ V, Below w.heap.size w V → ∀ (j : Nat) (x : Value), (rrcs (L.drop (k + 1)))[j]? = some x → V.cell? ((⟨g, (k + 1) * 3, none⟩ : Addr).add j) = some x := fun V hV j x hj => by
      have := hcl V hV _ x (rrcs_drop L (k + 1) (by omega) j x hj)
      rw [Go.WideShapes.add_plain] at this ⊢
      rw [Nat.zero_add] at this
      exact this
    have hv : ∀ r ∈ L, r.v.oneCell' = true := fun r hr => ir_cell (hx.tm r hr)
    have HV1 := Lib.hid (fun x hx' => rr_one (L.take k) x hx' fun r hr => hv r (List.mem_of_mem_take hr))
    have HV2 := Lib.hid (fun x hx' => rr_one (L.drop (k + 1)) x hx' fun r hr => hv r (List.mem_of_mem_drop hr))
    have HL1 := Lib.hid (show (rrcs (L.take k)).length = k * 3 by rw [rrcs_len, List.length_take, Nat.min_eq_left (by omega)])
    have HL2 := Lib.hid (show (rrcs (L.drop (k + 1))).length = (L.length - (k + 1)) * 3 by rw [rrcs_len, List.length_drop])
    have HSub := Lib.hid (show ∀ r ∈ L.take k ++ L.drop (k + 1), r ∈ L from fun r hr => by
      rcases List.mem_append.1 hr with q | q
      · exact List.mem_of_mem_take q
      · exact List.mem_of_mem_drop q)
    have HLe := Lib.hid (show (L.take k ++ L.drop (k + 1)).length = k + (L.length - (k + 1)) by rw [List.length_append, List.length_take, List.length_drop, Nat.min_eq_left (by omega)])
    have HB0 := Lib.hid (show 0 + k ≤ 1000000000 by omega)
    have HB1 := Lib.hid (show k + (L.length - (k + 1)) ≤ 1000000000 by omega)
    have HC : Hid (Below w.heap.size w w.drew) := Lib.hid (Below.refl _ _).drew
    have c4 := HSt.out _ HC.out
    have k0 : (0 : Int) ≤ (k : Int) := by omega
    have k1 : (k : Int) ≤ (cap : Int) := by omega
    have k2 : (k : Int) + 1 ≤ (L.length : Int) := by omega
    have k3 : k + 1 ≤ L.length := by omega
    have k4 : k ≤ cap := by omega
    have k7 : (0 : Int) ≤ (k : Int) + 1 := by omega
    have k5 : L.length ≤ cap := s1
    have k6 : k ≤ L.length := by omega
    have wr1 : IntKind.i64.wrap ((k : Int) + 1) = (k : Int) + 1 := IntWalk.i64_in _ (by omega)
    have wr2 : IntKind.i64.wrap (((k + 1 : Nat) : Int)) = ((k + 1 : Nat) : Int) := IntWalk.i64_in _ (by omega)
    have tn : ((k : Int) + 1).toNat = k + 1 := by omega
    by_cases hcap : k + 1 = cap
    · have HN2 : Hid (∀ V, Below w.heap.size w V → ∀ (j : Nat) (x : Value), (rrcs (L.drop (k + 1)))[j]? = some x → V.cell? ((⟨g, 0, none⟩ : Addr).add j) = some x) := Lib.hid fun V hV j x hj => by
        rw [List.drop_of_length_le (by omega)] at hj; simp [rrcs] at hj
      subst hcap
      have HL2 := Lib.hid (show (rrcs (L.drop (k + 1))).length = 0 * 3 by rw [HL2.out]; omega)
      have HLe := Lib.hid (show (L.take k ++ L.drop (k + 1)).length = k by rw [HLe.out]; omega)
      have HB1 := Lib.hid (show k + 0 ≤ 1000000000 by omega)
      have k8 : (k : Int) ≤ (k : Int) + 1 := by omega
      clear hx h2 h3 h4 h5 hA hok s3 hc hcl hn2 hv hown c4
      have c4 := HSt.out _ HC.out
      go_enter Try.func11, Try.ntmps11
      go_wp2_with fail
      refine (rmade_k S b most win lock L _ _ HX.out).mono ?_
      rintro e w' ⟨rfl, rfl⟩
      go_wp2_with fail
      refine (rfind_k S b most win lock L _ u k _ HX.out HI.out).mono ?_
      rintro e w' ⟨rfl, rfl⟩
      go_wp2_with fail
      refine wp_region_held_drew (S := fun _ => True) (by kernel_rfl) (trivial) (fun hS => ?_)
      refine wpAnyH_take (i := 0) (oi := { dst := some 13, op := _, type := _, pos := _, after := _, guard := _ }) (v := ?_) rfl (by kernel_rfl) (by kernel_rfl) (by kernel_rfl) (fun _ _ _ h => h) (Or.inl ⟨by rfl, ?_⟩) (by assumption) ?_
      rotate_left
      · intro w hSw
        try dsimp only at hSw
        go_simp
        try with_reducible rfl
      try simp only [Act.put, List.setIfInBounds_toArray, List.set_cons_zero, List.set_cons_succ]
      refine wpAnyH_take (i := 2) (oi := { dst := some 15, op := _, type := _, pos := _, after := _, guard := _ }) (v := ?_) rfl (by kernel_rfl) (by kernel_rfl) (by kernel_rfl) (fun _ _ _ h => h) (Or.inl ⟨by rfl, ?_⟩) (by assumption) ?_
      rotate_left
      · intro w hSw
        try dsimp only at hSw
        go_simp
        try with_reducible rfl
      try simp only [Act.put, List.setIfInBounds_toArray, List.set_cons_zero, List.set_cons_succ]
      refine wpAnyH_take (i := 3) (oi := { dst := some 16, op := _, type := _, pos := _, after := _, guard := _ }) (v := ?_) rfl (by kernel_rfl) (by kernel_rfl) (by kernel_rfl) (fun _ _ _ h => h) (Or.inl ⟨by rfl, ?_⟩) (by assumption) ?_
      rotate_left
      · intro w hSw
        try dsimp only at hSw
        go_simp
        try with_reducible rfl
      try simp only [Act.put, List.setIfInBounds_toArray, List.set_cons_zero, List.set_cons_succ]
      refine wpAnyH_take (i := 4) (oi := { dst := some 17, op := _, type := _, pos := _, after := _, guard := _ }) (v := ?_) rfl (by kernel_rfl) (by kernel_rfl) (by kernel_rfl) (fun _ _ _ h => h) (Or.inl ⟨by rfl, ?_⟩) (by assumption) ?_
      rotate_left
      · intro w hSw
        try dsimp only at hSw
        go_simp
        try with_reducible rfl
      try simp only [Act.put, List.setIfInBounds_toArray, List.set_cons_zero, List.set_cons_succ]
      refine wpAnyH_take (i := 6) (oi := { dst := some 19, op := _, type := _, pos := _, after := _, guard := _ }) (v := ?_) rfl (by kernel_rfl) (by kernel_rfl) (by kernel_rfl) (fun _ _ _ h => h) (Or.inl ⟨by rfl, ?_⟩) (by assumption) ?_
      rotate_left
      · intro w hSw
        try dsimp only at hSw
        go_simp
        try with_reducible rfl
      try simp only [Act.put, List.setIfInBounds_toArray, List.set_cons_zero, List.set_cons_succ]
      refine wpAnyH_take (i := 9) (oi := { dst := some 22, op := _, type := _, pos := _, after := _, guard := _ }) (v := ?_) rfl (by kernel_rfl) (by kernel_rfl) (by kernel_rfl) (fun _ _ _ h => h) (Or.inl ⟨by rfl, ?_⟩) (by assumption) ?_
      rotate_left
      · intro w hSw
        try dsimp only at hSw
        go_simp
        try with_reducible rfl
      try simp only [Act.put, List.setIfInBounds_toArray, List.set_cons_zero, List.set_cons_succ]
      refine wpAnyH_take (i := 10) (oi := { dst := some 23, op := _, type := _, pos := _, after := _, guard := _ }) (v := ?_) rfl (by kernel_rfl) (by kernel_rfl) (by kernel_rfl) (fun _ _ _ h => h) (Or.inl ⟨by rfl, ?_⟩) (by assumption) ?_
      rotate_left
      · intro w hSw
        try dsimp only at hSw
        go_simp
        try with_reducible rfl
      try simp only [Act.put, List.setIfInBounds_toArray, List.set_cons_zero, List.set_cons_succ]
      refine wpAnyH_take (i := 11) (oi := { dst := some 24, op := _, type := _, pos := _, after := _, guard := _ }) (v := ?_) rfl (by kernel_rfl) (by kernel_rfl) (by kernel_rfl) (fun _ _ _ h => h) (Or.inl ⟨by rfl, ?_⟩) (by assumption) ?_
      rotate_left
      · intro w hSw
        try dsimp only at hSw
        go_simp
        try with_reducible rfl
      try simp only [Act.put, List.setIfInBounds_toArray, List.set_cons_zero, List.set_cons_succ]
      refine wpAnyH_take (i := 13) (oi := { dst := some 26, op := _, type := _, pos := _, after := _, guard := _ }) (v := ?_) rfl (by kernel_rfl) (by kernel_rfl) (by kernel_rfl) (fun _ _ _ h => h) (Or.inl ⟨by rfl, ?_⟩) (by assumption) ?_
      rotate_left
      · intro w hSw
        try dsimp only at hSw
        go_simp
        try with_reducible rfl
      try simp only [Act.put, List.setIfInBounds_toArray, List.set_cons_zero, List.set_cons_succ]
      refine wpAnyH_take (i := 14) (oi := { dst := some 27, op := _, type := _, pos := _, after := _, guard := _ }) (v := ?_) rfl (by kernel_rfl) (by kernel_rfl) (by kernel_rfl) (fun _ _ _ h => h) (Or.inl ⟨by rfl, ?_⟩) (by assumption) ?_
      rotate_left
      · intro w hSw
        try dsimp only at hSw
        go_simp
        try with_reducible rfl
      try simp only [Act.put, List.setIfInBounds_toArray, List.set_cons_zero, List.set_cons_succ]
      refine wpAnyH_ready (rs := [1, 5, 12]) (by kernel_rfl) (by simp) ?_
      refine AllReadyH.cons rfl (fun K hK => ?_) (AllReadyH.cons rfl (fun K hK => ?_) (AllReadyH.cons rfl (fun K hK => ?_) AllReadyH.nil))
      · go_simp
        refine hK.out _ _ ?_ (fun hHeld => ?_)
        · exact trivial
        clear hK K
        have HO := Lib.hid (rr_empty w.drew)
        have HC := Lib.hid (HC.out.alloc HC.out.size (.cells #[] 65))
        have c4 := HSt.out _ HC.out
        try simp only [Act.put, List.setIfInBounds_toArray, List.set_cons_zero, List.set_cons_succ]
        refine wpAnyH_ready (rs := [5, 12]) (by kernel_rfl) (by simp) ?_
        refine AllReadyH.cons rfl (fun K hK => ?_) (AllReadyH.cons rfl (fun K hK => ?_) AllReadyH.nil)
        · go_simp
          refine hK.out _ _ ?_ (fun hHeld => ?_)
          · exact trivial
          clear hK K
          try simp only [Act.put, List.setIfInBounds_toArray, List.set_cons_zero, List.set_cons_succ]
          refine wpAnyH_take (i := 7) (oi := { dst := some 20, op := _, type := _, pos := _, after := _, guard := _ }) (v := ?_) rfl (by kernel_rfl) (by kernel_rfl) (by kernel_rfl) (fun _ _ _ h => h) (Or.inl ⟨by rfl, ?_⟩) (by assumption) ?_
          rotate_left
          · intro w hSw
            try dsimp only at hSw
            go_simp
            try with_reducible rfl
          try simp only [Act.put, List.setIfInBounds_toArray, List.set_cons_zero, List.set_cons_succ]
          refine wpAnyH_ready (rs := [8, 12]) (by kernel_rfl) (by simp) ?_
          refine AllReadyH.cons rfl (fun K hK => ?_) (AllReadyH.cons rfl (fun K hK => ?_) AllReadyH.nil)
          · refine step_app_r _ HO.out _ _ ⟨g, 0, none⟩ k (k + 1) (rrcs (L.take k)) HL1.out (HN1.out _ HC.out) HV1.out rfl rfl rfl (by simp [Act.eval, Act.put]) HB0.out HC.out.size ?_
            intro v1 w3 q1 q2
            rw [Nat.zero_add, List.nil_append] at q1
            obtain ⟨vo, vc, hv1⟩ := rr_slice q1
            subst hv1
            have HC := Lib.hid (HC.out.grown q2.out HC.out.size (fun i hi => (HO.out.lt i hi).1))
            have HO1 := Lib.hid q1
            have c4 := HSt.out _ HC.out
            clear q1 q2
            refine hK.out _ _ ?_ (fun hHeld => ?_)
            · exact trivial
            clear hK K
            try simp only [Act.put, List.setIfInBounds_toArray, List.set_cons_zero, List.set_cons_succ]
            refine wpAnyH_ready (rs := [12]) (by kernel_rfl) (by simp) ?_
            refine AllReadyH.cons rfl (fun K hK => ?_) AllReadyH.nil
            go_simp
            refine hK.out _ _ ?_ (fun hHeld => ?_)
            · exact trivial
            clear hK K
            try simp only [Act.put, List.setIfInBounds_toArray, List.set_cons_zero, List.set_cons_succ]
            refine wpAnyH_take (i := 15) (oi := { dst := some 28, op := _, type := _, pos := _, after := _, guard := _ }) (v := ?_) rfl (by kernel_rfl) (by kernel_rfl) (by kernel_rfl) (fun _ _ _ h => h) (Or.inl ⟨by rfl, ?_⟩) (by assumption) ?_
            rotate_left
            · intro w hSw
              try dsimp only at hSw
              go_simp
              try with_reducible rfl
            try simp only [Act.put, List.setIfInBounds_toArray, List.set_cons_zero, List.set_cons_succ]
            refine wpAnyH_ready (rs := [16]) (by kernel_rfl) (by simp) ?_
            refine AllReadyH.cons rfl (fun K hK => ?_) AllReadyH.nil
            refine step_app_r _ HO1.out _ _ ⟨g, 0, none⟩ 0 0 (rrcs (L.drop (k + 1))) HL2.out (HN2.out _ HC.out) HV2.out rfl rfl rfl (by simp [Act.eval, Act.put]) HB1.out HC.out.size ?_
            intro v2 w4 q1 q2
            rw [Nat.add_zero] at q1
            obtain ⟨vo2, vc2, hv2⟩ := rr_slice q1
            subst hv2
            have HC := Lib.hid (HC.out.grown q2.out HC.out.size (fun i hi => (HO1.out.lt i hi).1))
            have HO2 := Lib.hid q1
            have c4 := HSt.out _ HC.out
            have f4 := HFr.out _ HC.out
            clear q1 q2
            refine hK.out _ _ ?_ (fun hHeld => ?_)
            · exact trivial
            clear hK K
            try simp only [Act.put, List.setIfInBounds_toArray, List.set_cons_zero, List.set_cons_succ]
            refine wpAnyH_take (i := 17) (oi := { dst := some 30, op := _, type := _, pos := _, after := _, guard := _ }) (v := ?_) rfl (by kernel_rfl) (by kernel_rfl) (by kernel_rfl) (fun _ _ _ h => h) (Or.inl ⟨by rfl, ?_⟩) (by assumption) ?_
            rotate_left
            · intro w hSw
              try dsimp only at hSw
              go_simp
              try with_reducible rfl
            try simp only [Act.put, List.setIfInBounds_toArray, List.set_cons_zero, List.set_cons_succ]
            refine wpAnyH_take (i := 18) (oi := { dst := some 31, op := _, type := _, pos := _, after := _, guard := _ }) (v := ?_) rfl (by kernel_rfl) (by kernel_rfl) (by kernel_rfl) (fun _ _ _ h => h) (Or.inl ⟨by rfl, ?_⟩) (by assumption) ?_
            rotate_left
            · intro w hSw
              try dsimp only at hSw
              go_simp
              try with_reducible rfl
            try simp only [Act.put, List.setIfInBounds_toArray, List.set_cons_zero, List.set_cons_succ]
            refine wpAnyH_ready (rs := [19]) (by kernel_rfl) (by simp) ?_
            refine AllReadyH.cons rfl (fun K hK => ?_) AllReadyH.nil
            go_simp
            refine hK.out _ _ ?_ (fun hHeld => ?_)
            · exact trivial
            clear hK K
            have HD := Lib.hid (HX.out.put HC.out HSub.out (by rw [HLe.out, rrcs_app]; exact HO2.out))
            try simp only [Act.put, List.setIfInBounds_toArray, List.set_cons_zero, List.set_cons_succ]
            refine wpAnyH_done (by kernel_rfl) ?_ _
            go_wp2_with fail
            go_end0
            exact ⟨rfl, ⟨_, _, HD.out.1, HA.out⟩, HD.out.2⟩
          · go_simp
            refine hK.out _ _ ?_ (fun hHeld => ?_)
            · exact trivial
            clear hK K
            try simp only [Act.put, List.setIfInBounds_toArray, List.set_cons_zero, List.set_cons_succ]
            refine wpAnyH_take (i := 15) (oi := { dst := some 28, op := _, type := _, pos := _, after := _, guard := _ }) (v := ?_) rfl (by kernel_rfl) (by kernel_rfl) (by kernel_rfl) (fun _ _ _ h => h) (Or.inl ⟨by rfl, ?_⟩) (by assumption) ?_
            rotate_left
            · intro w hSw
              try dsimp only at hSw
              go_simp
              try with_reducible rfl
            try simp only [Act.put, List.setIfInBounds_toArray, List.set_cons_zero, List.set_cons_succ]
            refine wpAnyH_ready (rs := [8]) (by kernel_rfl) (by simp) ?_
            refine AllReadyH.cons rfl (fun K hK => ?_) AllReadyH.nil
            refine step_app_r _ HO.out _ _ ⟨g, 0, none⟩ k (k + 1) (rrcs (L.take k)) HL1.out (HN1.out _ HC.out) HV1.out rfl rfl rfl (by simp [Act.eval, Act.put]) HB0.out HC.out.size ?_
            intro v1 w3 q1 q2
            rw [Nat.zero_add, List.nil_append] at q1
            obtain ⟨vo, vc, hv1⟩ := rr_slice q1
            subst hv1
            have HC := Lib.hid (HC.out.grown q2.out HC.out.size (fun i hi => (HO.out.lt i hi).1))
            have HO1 := Lib.hid q1
            have c4 := HSt.out _ HC.out
            clear q1 q2
            refine hK.out _ _ ?_ (fun hHeld => ?_)
            · exact trivial
            clear hK K
            try simp only [Act.put, List.setIfInBounds_toArray, List.set_cons_zero, List.set_cons_succ]
            refine wpAnyH_ready (rs := [16]) (by kernel_rfl) (by simp) ?_
            refine AllReadyH.cons rfl (fun K hK => ?_) AllReadyH.nil
            refine step_app_r _ HO1.out _ _ ⟨g, 0, none⟩ 0 0 (rrcs (L.drop (k + 1))) HL2.out (HN2.out _ HC.out) HV2.out rfl rfl rfl (by simp [Act.eval, Act.put]) HB1.out HC.out.size ?_
            intro v2 w4 q1 q2
            rw [Nat.add_zero] at q1
            obtain ⟨vo2, vc2, hv2⟩ := rr_slice q1
            subst hv2
            have HC := Lib.hid (HC.out.grown q2.out HC.out.size (fun i hi => (HO1.out.lt i hi).1))
            have HO2 := Lib.hid q1
            have c4 := HSt.out _ HC.out
            have f4 := HFr.out _ HC.out
            clear q1 q2
            refine hK.out _ _ ?_ (fun hHeld => ?_)
            · exact trivial
            clear hK K
            try simp only [Act.put, List.setIfInBounds_toArray, List.set_cons_zero, List.set_cons_succ]
            refine wpAnyH_take (i := 17) (oi := { dst := some 30, op := _, type := _, pos := _, after := _, guard := _ }) (v := ?_) rfl (by kernel_rfl) (by kernel_rfl) (by kernel_rfl) (fun _ _ _ h => h) (Or.inl ⟨by rfl, ?_⟩) (by assumption) ?_
            rotate_left
            · intro w hSw
              try dsimp only at hSw
              go_simp
              try with_reducible rfl
            try simp only [Act.put, List.setIfInBounds_toArray, List.set_cons_zero, List.set_cons_succ]
            refine wpAnyH_take (i := 18) (oi := { dst := some 31, op := _, type := _, pos := _, after := _, guard := _ }) (v := ?_) rfl (by kernel_rfl) (by kernel_rfl) (by kernel_rfl) (fun _ _ _ h => h) (Or.inl ⟨by rfl, ?_⟩) (by assumption) ?_
            rotate_left
            · intro w hSw
              try dsimp only at hSw
              go_simp
              try with_reducible rfl
            try simp only [Act.put, List.setIfInBounds_toArray, List.set_cons_zero, List.set_cons_succ]
            refine wpAnyH_ready (rs := [19]) (by kernel_rfl) (by simp) ?_
            refine AllReadyH.cons rfl (fun K hK => ?_) AllReadyH.nil
            go_simp
            refine hK.out _ _ ?_ (fun hHeld => ?_)
            · exact trivial
            clear hK K
            have HD := Lib.hid (HX.out.put HC.out HSub.out (by rw [HLe.out, rrcs_app]; exact HO2.out))
            try simp only [Act.put, List.setIfInBounds_toArray, List.set_cons_zero, List.set_cons_succ]
            refine wpAnyH_done (by kernel_rfl) ?_ _
            go_wp2_with fail
            go_end0
            exact ⟨rfl, ⟨_, _, HD.out.1, HA.out⟩, HD.out.2⟩
        · go_simp
          refine hK.out _ _ ?_ (fun hHeld => ?_)
          · exact trivial
          clear hK K
          try simp only [Act.put, List.setIfInBounds_toArray, List.set_cons_zero, List.set_cons_succ]
          refine wpAnyH_take (i := 15) (oi := { dst := some 28, op := _, type := _, pos := _, after := _, guard := _ }) (v := ?_) rfl (by kernel_rfl) (by kernel_rfl) (by kernel_rfl) (fun _ _ _ h => h) (Or.inl ⟨by rfl, ?_⟩) (by assumption) ?_
          rotate_left
          · intro w hSw
            try dsimp only at hSw
            go_simp
            try with_reducible rfl
          try simp only [Act.put, List.setIfInBounds_toArray, List.set_cons_zero, List.set_cons_succ]
          refine wpAnyH_ready (rs := [5]) (by kernel_rfl) (by simp) ?_
          refine AllReadyH.cons rfl (fun K hK => ?_) AllReadyH.nil
          go_simp
          refine hK.out _ _ ?_ (fun hHeld => ?_)
          · exact trivial
          clear hK K
          try simp only [Act.put, List.setIfInBounds_toArray, List.set_cons_zero, List.set_cons_succ]
          refine wpAnyH_take (i := 7) (oi := { dst := some 20, op := _, type := _, pos := _, after := _, guard := _ }) (v := ?_) rfl (by kernel_rfl) (by kernel_rfl) (by kernel_rfl) (fun _ _ _ h => h) (Or.inl ⟨by rfl, ?_⟩) (by assumption) ?_
          rotate_left
          · intro w hSw
            try dsimp only at hSw
            go_simp
            try with_reducible rfl
          try simp only [Act.put, List.setIfInBounds_toArray, List.set_cons_zero, List.set_cons_succ]
          refine wpAnyH_ready (rs := [8]) (by kernel_rfl) (by simp) ?_
          refine AllReadyH.cons rfl (fun K hK => ?_) AllReadyH.nil
          refine step_app_r _ HO.out _ _ ⟨g, 0, none⟩ k (k + 1) (rrcs (L.take k)) HL1.out (HN1.out _ HC.out) HV1.out rfl rfl rfl (by simp [Act.eval, Act.put]) HB0.out HC.out.size ?_
          intro v1 w3 q1 q2
          rw [Nat.zero_add, List.nil_append] at q1
          obtain ⟨vo, vc, hv1⟩ := rr_slice q1
          subst hv1
          have HC := Lib.hid (HC.out.grown q2.out HC.out.size (fun i hi => (HO.out.lt i hi).1))
          have HO1 := Lib.hid q1
          have c4 := HSt.out _ HC.out
          clear q1 q2
          refine hK.out _ _ ?_ (fun hHeld => ?_)
          · exact trivial
          clear hK K
          try simp only [Act.put, List.setIfInBounds_toArray, List.set_cons_zero, List.set_cons_succ]
          refine wpAnyH_ready (rs := [16]) (by kernel_rfl) (by simp) ?_
          refine AllReadyH.cons rfl (fun K hK => ?_) AllReadyH.nil
          refine step_app_r _ HO1.out _ _ ⟨g, 0, none⟩ 0 0 (rrcs (L.drop (k + 1))) HL2.out (HN2.out _ HC.out) HV2.out rfl rfl rfl (by simp [Act.eval, Act.put]) HB1.out HC.out.size ?_
          intro v2 w4 q1 q2
          rw [Nat.add_zero] at q1
          obtain ⟨vo2, vc2, hv2⟩ := rr_slice q1
          subst hv2
          have HC := Lib.hid (HC.out.grown q2.out HC.out.size (fun i hi => (HO1.out.lt i hi).1))
          have HO2 := Lib.hid q1
          have c4 := HSt.out _ HC.out
          have f4 := HFr.out _ HC.out
          clear q1 q2
          refine hK.out _ _ ?_ (fun hHeld => ?_)
          · exact trivial
          clear hK K
          try simp only [Act.put, List.setIfInBounds_toArray, List.set_cons_zero, List.set_cons_succ]
          refine wpAnyH_take (i := 17) (oi := { dst := some 30, op := _, type := _, pos := _, after := _, guard := _ }) (v := ?_) rfl (by kernel_rfl) (by kernel_rfl) (by kernel_rfl) (fun _ _ _ h => h) (Or.inl ⟨by rfl, ?_⟩) (by assumption) ?_
          rotate_left
          · intro w hSw
            try dsimp only at hSw
            go_simp
            try with_reducible rfl
          try simp only [Act.put, List.setIfInBounds_toArray, List.set_cons_zero, List.set_cons_succ]
          refine wpAnyH_take (i := 18) (oi := { dst := some 31, op := _, type := _, pos := _, after := _, guard := _ }) (v := ?_) rfl (by kernel_rfl) (by kernel_rfl) (by kernel_rfl) (fun _ _ _ h => h) (Or.inl ⟨by rfl, ?_⟩) (by assumption) ?_
          rotate_left
          · intro w hSw
            try dsimp only at hSw
            go_simp
            try with_reducible rfl
          try simp only [Act.put, List.setIfInBounds_toArray, List.set_cons_zero, List.set_cons_succ]
          refine wpAnyH_ready (rs := [19]) (by kernel_rfl) (by simp) ?_
          refine AllReadyH.cons rfl (fun K hK => ?_) AllReadyH.nil
          go_simp
          refine hK.out _ _ ?_ (fun hHeld => ?_)
          · exact trivial
          clear hK K
          have HD := Lib.hid (HX.out.put HC.out HSub.out (by rw [HLe.out, rrcs_app]; exact HO2.out))
          try simp only [Act.put, List.setIfInBounds_toArray, List.set_cons_zero, List.set_cons_succ]
          refine wpAnyH_done (by kernel_rfl) ?_ _
          go_wp2_with fail
          go_end0
          exact ⟨rfl, ⟨_, _, HD.out.1, HA.out⟩, HD.out.2⟩
      · go_simp
        refine hK.out _ _ ?_ (fun hHeld => ?_)
        · exact trivial
        clear hK K
        try simp only [Act.put, List.setIfInBounds_toArray, List.set_cons_zero, List.set_cons_succ]
        refine wpAnyH_take (i := 7) (oi := { dst := some 20, op := _, type := _, pos := _, after := _, guard := _ }) (v := ?_) rfl (by kernel_rfl) (by kernel_rfl) (by kernel_rfl) (fun _ _ _ h => h) (Or.inl ⟨by rfl, ?_⟩) (by assumption) ?_
        rotate_left
        · intro w hSw
          try dsimp only at hSw
          go_simp
          try with_reducible rfl
        try simp only [Act.put, List.setIfInBounds_toArray, List.set_cons_zero, List.set_cons_succ]
        refine wpAnyH_ready (rs := [1, 12]) (by kernel_rfl) (by simp) ?_
        refine AllReadyH.cons rfl (fun K hK => ?_) (AllReadyH.cons rfl (fun K hK => ?_) AllReadyH.nil)
        · go_simp
          refine hK.out _ _ ?_ (fun hHeld => ?_)
          · exact trivial
          clear hK K
          have HO := Lib.hid (rr_empty w.drew)
          have HC := Lib.hid (HC.out.alloc HC.out.size (.cells #[] 65))
          have c4 := HSt.out _ HC.out
          try simp only [Act.put, List.setIfInBounds_toArray, List.set_cons_zero, List.set_cons_succ]
          refine wpAnyH_ready (rs := [8, 12]) (by kernel_rfl) (by simp) ?_
          refine AllReadyH.cons rfl (fun K hK => ?_) (AllReadyH.cons rfl (fun K hK => ?_) AllReadyH.nil)
          · refine step_app_r _ HO.out _ _ ⟨g, 0, none⟩ k (k + 1) (rrcs (L.take k)) HL1.out (HN1.out _ HC.out) HV1.out rfl rfl rfl (by simp [Act.eval, Act.put]) HB0.out HC.out.size ?_
            intro v1 w3 q1 q2
            rw [Nat.zero_add, List.nil_append] at q1
            obtain ⟨vo, vc, hv1⟩ := rr_slice q1
            subst hv1
            have HC := Lib.hid (HC.out.grown q2.out HC.out.size (fun i hi => (HO.out.lt i hi).1))
            have HO1 := Lib.hid q1
            have c4 := HSt.out _ HC.out
            clear q1 q2
            refine hK.out _ _ ?_ (fun hHeld => ?_)
            · exact trivial
            clear hK K
            try simp only [Act.put, List.setIfInBounds_toArray, List.set_cons_zero, List.set_cons_succ]
            refine wpAnyH_ready (rs := [12]) (by kernel_rfl) (by simp) ?_
            refine AllReadyH.cons rfl (fun K hK => ?_) AllReadyH.nil
            go_simp
            refine hK.out _ _ ?_ (fun hHeld => ?_)
            · exact trivial
            clear hK K
            try simp only [Act.put, List.setIfInBounds_toArray, List.set_cons_zero, List.set_cons_succ]
            refine wpAnyH_take (i := 15) (oi := { dst := some 28, op := _, type := _, pos := _, after := _, guard := _ }) (v := ?_) rfl (by kernel_rfl) (by kernel_rfl) (by kernel_rfl) (fun _ _ _ h => h) (Or.inl ⟨by rfl, ?_⟩) (by assumption) ?_
            rotate_left
            · intro w hSw
              try dsimp only at hSw
              go_simp
              try with_reducible rfl
            try simp only [Act.put, List.setIfInBounds_toArray, List.set_cons_zero, List.set_cons_succ]
            refine wpAnyH_ready (rs := [16]) (by kernel_rfl) (by simp) ?_
            refine AllReadyH.cons rfl (fun K hK => ?_) AllReadyH.nil
            refine step_app_r _ HO1.out _ _ ⟨g, 0, none⟩ 0 0 (rrcs (L.drop (k + 1))) HL2.out (HN2.out _ HC.out) HV2.out rfl rfl rfl (by simp [Act.eval, Act.put]) HB1.out HC.out.size ?_
            intro v2 w4 q1 q2
            rw [Nat.add_zero] at q1
            obtain ⟨vo2, vc2, hv2⟩ := rr_slice q1
            subst hv2
            have HC := Lib.hid (HC.out.grown q2.out HC.out.size (fun i hi => (HO1.out.lt i hi).1))
            have HO2 := Lib.hid q1
            have c4 := HSt.out _ HC.out
            have f4 := HFr.out _ HC.out
            clear q1 q2
            refine hK.out _ _ ?_ (fun hHeld => ?_)
            · exact trivial
            clear hK K
            try simp only [Act.put, List.setIfInBounds_toArray, List.set_cons_zero, List.set_cons_succ]
            refine wpAnyH_take (i := 17) (oi := { dst := some 30, op := _, type := _, pos := _, after := _, guard := _ }) (v := ?_) rfl (by kernel_rfl) (by kernel_rfl) (by kernel_rfl) (fun _ _ _ h => h) (Or.inl ⟨by rfl, ?_⟩) (by assumption) ?_
            rotate_left
            · intro w hSw
              try dsimp only at hSw
              go_simp
              try with_reducible rfl
            try simp only [Act.put, List.setIfInBounds_toArray, List.set_cons_zero, List.set_cons_succ]
            refine wpAnyH_take (i := 18) (oi := { dst := some 31, op := _, type := _, pos := _, after := _, guard := _ }) (v := ?_) rfl (by kernel_rfl) (by kernel_rfl) (by kernel_rfl) (fun _ _ _ h => h) (Or.inl ⟨by rfl, ?_⟩) (by assumption) ?_
            rotate_left
            · intro w hSw
              try dsimp only at hSw
              go_simp
              try with_reducible rfl
            try simp only [Act.put, List.setIfInBounds_toArray, List.set_cons_zero, List.set_cons_succ]
            refine wpAnyH_ready (rs := [19]) (by kernel_rfl) (by simp) ?_
            refine AllReadyH.cons rfl (fun K hK => ?_) AllReadyH.nil
            go_simp
            refine hK.out _ _ ?_ (fun hHeld => ?_)
            · exact trivial
            clear hK K
            have HD := Lib.hid (HX.out.put HC.out HSub.out (by rw [HLe.out, rrcs_app]; exact HO2.out))
            try simp only [Act.put, List.setIfInBounds_toArray, List.set_cons_zero, List.set_cons_succ]
            refine wpAnyH_done (by kernel_rfl) ?_ _
            go_wp2_with fail
            go_end0
            exact ⟨rfl, ⟨_, _, HD.out.1, HA.out⟩, HD.out.2⟩
          · go_simp
            refine hK.out _ _ ?_ (fun hHeld => ?_)
            · exact trivial
            clear hK K
            try simp only [Act.put, List.setIfInBounds_toArray, List.set_cons_zero, List.set_cons_succ]
            refine wpAnyH_take (i := 15) (oi := { dst := some 28, op := _, type := _, pos := _, after := _, guard := _ }) (v := ?_) rfl (by kernel_rfl) (by kernel_rfl) (by kernel_rfl) (fun _ _ _ h => h) (Or.inl ⟨by rfl, ?_⟩) (by assumption) ?_
            rotate_left
            · intro w hSw
              try dsimp only at hSw
              go_simp
              try with_reducible rfl
            try simp only [Act.put, List.setIfInBounds_toArray, List.set_cons_zero, List.set_cons_succ]
            refine wpAnyH_ready (rs := [8]) (by kernel_rfl) (by simp) ?_
            refine AllReadyH.cons rfl (fun K hK => ?_) AllReadyH.nil
            refine step_app_r _ HO.out _ _ ⟨g, 0, none⟩ k (k + 1) (rrcs (L.take k)) HL1.out (HN1.out _ HC.out) HV1.out rfl rfl rfl (by simp [Act.eval, Act.put]) HB0.out HC.out.size ?_
            intro v1 w3 q1 q2
            rw [Nat.zero_add, List.nil_append] at q1
            obtain ⟨vo, vc, hv1⟩ := rr_slice q1
            subst hv1
            have HC := Lib.hid (HC.out.grown q2.out HC.out.size (fun i hi => (HO.out.lt i hi).1))
            have HO1 := Lib.hid q1
            have c4 := HSt.out _ HC.out
            clear q1 q2
            refine hK.out _ _ ?_ (fun hHeld => ?_)
            · exact trivial
            clear hK K
            try simp only [Act.put, List.setIfInBounds_toArray, List.set_cons_zero, List.set_cons_succ]
            refine wpAnyH_ready (rs := [16]) (by kernel_rfl) (by simp) ?_
            refine AllReadyH.cons rfl (fun K hK => ?_) AllReadyH.nil
            refine step_app_r _ HO1.out _ _ ⟨g, 0, none⟩ 0 0 (rrcs (L.drop (k + 1))) HL2.out (HN2.out _ HC.out) HV2.out rfl rfl rfl (by simp [Act.eval, Act.put]) HB1.out HC.out.size ?_
            intro v2 w4 q1 q2
            rw [Nat.add_zero] at q1
            obtain ⟨vo2, vc2, hv2⟩ := rr_slice q1
            subst hv2
            have HC := Lib.hid (HC.out.grown q2.out HC.out.size (fun i hi => (HO1.out.lt i hi).1))
            have HO2 := Lib.hid q1
            have c4 := HSt.out _ HC.out
            have f4 := HFr.out _ HC.out
            clear q1 q2
            refine hK.out _ _ ?_ (fun hHeld => ?_)
            · exact trivial
            clear hK K
            try simp only [Act.put, List.setIfInBounds_toArray, List.set_cons_zero, List.set_cons_succ]
            refine wpAnyH_take (i := 17) (oi := { dst := some 30, op := _, type := _, pos := _, after := _, guard := _ }) (v := ?_) rfl (by kernel_rfl) (by kernel_rfl) (by kernel_rfl) (fun _ _ _ h => h) (Or.inl ⟨by rfl, ?_⟩) (by assumption) ?_
            rotate_left
            · intro w hSw
              try dsimp only at hSw
              go_simp
              try with_reducible rfl
            try simp only [Act.put, List.setIfInBounds_toArray, List.set_cons_zero, List.set_cons_succ]
            refine wpAnyH_take (i := 18) (oi := { dst := some 31, op := _, type := _, pos := _, after := _, guard := _ }) (v := ?_) rfl (by kernel_rfl) (by kernel_rfl) (by kernel_rfl) (fun _ _ _ h => h) (Or.inl ⟨by rfl, ?_⟩) (by assumption) ?_
            rotate_left
            · intro w hSw
              try dsimp only at hSw
              go_simp
              try with_reducible rfl
            try simp only [Act.put, List.setIfInBounds_toArray, List.set_cons_zero, List.set_cons_succ]
            refine wpAnyH_ready (rs := [19]) (by kernel_rfl) (by simp) ?_
            refine AllReadyH.cons rfl (fun K hK => ?_) AllReadyH.nil
            go_simp
            refine hK.out _ _ ?_ (fun hHeld => ?_)
            · exact trivial
            clear hK K
            have HD := Lib.hid (HX.out.put HC.out HSub.out (by rw [HLe.out, rrcs_app]; exact HO2.out))
            try simp only [Act.put, List.setIfInBounds_toArray, List.set_cons_zero, List.set_cons_succ]
            refine wpAnyH_done (by kernel_rfl) ?_ _
            go_wp2_with fail
            go_end0
            exact ⟨rfl, ⟨_, _, HD.out.1, HA.out⟩, HD.out.2⟩
        · go_simp
          refine hK.out _ _ ?_ (fun hHeld => ?_)
          · exact trivial
          clear hK K
          try simp only [Act.put, List.setIfInBounds_toArray, List.set_cons_zero, List.set_cons_succ]
          refine wpAnyH_take (i := 15) (oi := { dst := some 28, op := _, type := _, pos := _, after := _, guard := _ }) (v := ?_) rfl (by kernel_rfl) (by kernel_rfl) (by kernel_rfl) (fun _ _ _ h => h) (Or.inl ⟨by rfl, ?_⟩) (by assumption) ?_
          rotate_left
          · intro w hSw
            try dsimp only at hSw
            go_simp
            try with_reducible rfl
          try simp only [Act.put, List.setIfInBounds_toArray, List.set_cons_zero, List.set_cons_succ]
          refine wpAnyH_ready (rs := [1]) (by kernel_rfl) (by simp) ?_
          refine AllReadyH.cons rfl (fun K hK => ?_) AllReadyH.nil
          go_simp
          refine hK.out _ _ ?_ (fun hHeld => ?_)
          · exact trivial
          clear hK K
          have HO := Lib.hid (rr_empty w.drew)
          have HC := Lib.hid (HC.out.alloc HC.out.size (.cells #[] 65))
          have c4 := HSt.out _ HC.out
          try simp only [Act.put, List.setIfInBounds_toArray, List.set_cons_zero, List.set_cons_succ]
          refine wpAnyH_ready (rs := [8]) (by kernel_rfl) (by simp) ?_
          refine AllReadyH.cons rfl (fun K hK => ?_) AllReadyH.nil
          refine step_app_r _ HO.out _ _ ⟨g, 0, none⟩ k (k + 1) (rrcs (L.take k)) HL1.out (HN1.out _ HC.out) HV1.out rfl rfl rfl (by simp [Act.eval, Act.put]) HB0.out HC.out.size ?_
          intro v1 w3 q1 q2
          rw [Nat.zero_add, List.nil_append] at q1
          obtain ⟨vo, vc, hv1⟩ := rr_slice q1
          subst hv1
          have HC := Lib.hid (HC.out.grown q2.out HC.out.size (fun i hi => (HO.out.lt i hi).1))
          have HO1 := Lib.hid q1
          have c4 := HSt.out _ HC.out
          clear q1 q2
          refine hK.out _ _ ?_ (fun hHeld => ?_)
          · exact trivial
          clear hK K
          try simp only [Act.put, List.setIfInBounds_toArray, List.set_cons_zero, List.set_cons_succ]
          refine wpAnyH_ready (rs := [16]) (by kernel_rfl) (by simp) ?_
          refine AllReadyH.cons rfl (fun K hK => ?_) AllReadyH.nil
          refine step_app_r _ HO1.out _ _ ⟨g, 0, none⟩ 0 0 (rrcs (L.drop (k + 1))) HL2.out (HN2.out _ HC.out) HV2.out rfl rfl rfl (by simp [Act.eval, Act.put]) HB1.out HC.out.size ?_
          intro v2 w4 q1 q2
          rw [Nat.add_zero] at q1
          obtain ⟨vo2, vc2, hv2⟩ := rr_slice q1
          subst hv2
          have HC := Lib.hid (HC.out.grown q2.out HC.out.size (fun i hi => (HO1.out.lt i hi).1))
          have HO2 := Lib.hid q1
          have c4 := HSt.out _ HC.out
          have f4 := HFr.out _ HC.out
          clear q1 q2
          refine hK.out _ _ ?_ (fun hHeld => ?_)
          · exact trivial
          clear hK K
          try simp only [Act.put, List.setIfInBounds_toArray, List.set_cons_zero, List.set_cons_succ]
          refine wpAnyH_take (i := 17) (oi := { dst := some 30, op := _, type := _, pos := _, after := _, guard := _ }) (v := ?_) rfl (by kernel_rfl) (by kernel_rfl) (by kernel_rfl) (fun _ _ _ h => h) (Or.inl ⟨by rfl, ?_⟩) (by assumption) ?_
          rotate_left
          · intro w hSw
            try dsimp only at hSw
            go_simp
            try with_reducible rfl
          try simp only [Act.put, List.setIfInBounds_toArray, List.set_cons_zero, List.set_cons_succ]
          refine wpAnyH_take (i := 18) (oi := { dst := some 31, op := _, type := _, pos := _, after := _, guard := _ }) (v := ?_) rfl (by kernel_rfl) (by kernel_rfl) (by kernel_rfl) (fun _ _ _ h => h) (Or.inl ⟨by rfl, ?_⟩) (by assumption) ?_
          rotate_left
          · intro w hSw
            try dsimp only at hSw
            go_simp
            try with_reducible rfl
          try simp only [Act.put, List.setIfInBounds_toArray, List.set_cons_zero, List.set_cons_succ]
          refine wpAnyH_ready (rs := [19]) (by kernel_rfl) (by simp) ?_
          refine AllReadyH.cons rfl (fun K hK => ?_) AllReadyH.nil
          go_simp
          refine hK.out _ _ ?_ (fun hHeld => ?_)
          · exact trivial
          clear hK K
          have HD := Lib.hid (HX.out.put HC.out HSub.out (by rw [HLe.out, rrcs_app]; exact HO2.out))
          try simp only [Act.put, List.setIfInBounds_toArray, List.set_cons_zero, List.set_cons_succ]
          refine wpAnyH_done (by kernel_rfl) ?_ _
          go_wp2_with fail
          go_end0
          exact ⟨rfl, ⟨_, _, HD.out.1, HA.out⟩, HD.out.2⟩
      · go_simp
        refine hK.out _ _ ?_ (fun hHeld => ?_)
        · exact trivial
        clear hK K
        try simp only [Act.put, List.setIfInBounds_toArray, List.set_cons_zero, List.set_cons_succ]
        refine wpAnyH_take (i := 15) (oi := { dst := some 28, op := _, type := _, pos := _, after := _, guard := _ }) (v := ?_) rfl (by kernel_rfl) (by kernel_rfl) (by kernel_rfl) (fun _ _ _ h => h) (Or.inl ⟨by rfl, ?_⟩) (by assumption) ?_
        rotate_left
        · intro w hSw
          try dsimp only at hSw
          go_simp
          try with_reducible rfl
        try simp only [Act.put, List.setIfInBounds_toArray, List.set_cons_zero, List.set_cons_succ]
        refine wpAnyH_ready (rs := [1, 5]) (by kernel_rfl) (by simp) ?_
        refine AllReadyH.cons rfl (fun K hK => ?_) (AllReadyH.cons rfl (fun K hK => ?_) AllReadyH.nil)
        · go_simp
          refine hK.out _ _ ?_ (fun hHeld => ?_)
          · exact trivial
          clear hK K
          have HO := Lib.hid (rr_empty w.drew)
          have HC := Lib.hid (HC.out.alloc HC.out.size (.cells #[] 65))
          have c4 := HSt.out _ HC.out
          try simp only [Act.put, List.setIfInBounds_toArray, List.set_cons_zero, List.set_cons_succ]
          refine wpAnyH_ready (rs := [5]) (by kernel_rfl) (by simp) ?_
          refine AllReadyH.cons rfl (fun K hK => ?_) AllReadyH.nil
          go_simp
          refine hK.out _ _ ?_ (fun hHeld => ?_)
          · exact trivial
          clear hK K
          try simp only [Act.put, List.setIfInBounds_toArray, List.set_cons_zero, List.set_cons_succ]
          refine wpAnyH_take (i := 7) (oi := { dst := some 20, op := _, type := _, pos := _, after := _, guard := _ }) (v := ?_) rfl (by kernel_rfl) (by kernel_rfl) (by kernel_rfl) (fun _ _ _ h => h) (Or.inl ⟨by rfl, ?_⟩) (by assumption) ?_
          rotate_left
          · intro w hSw
            try dsimp only at hSw
            go_simp
            try with_reducible rfl
          try simp only [Act.put, List.setIfInBounds_toArray, List.set_cons_zero, List.set_cons_succ]
          refine wpAnyH_ready (rs := [8]) (by kernel_rfl) (by simp) ?_
          refine AllReadyH.cons rfl (fun K hK => ?_) AllReadyH.nil
          refine step_app_r _ HO.out _ _ ⟨g, 0, none⟩ k (k + 1) (rrcs (L.take k)) HL1.out (HN1.out _ HC.out) HV1.out rfl rfl rfl (by simp [Act.eval, Act.put]) HB0.out HC.out.size ?_
          intro v1 w3 q1 q2
          rw [Nat.zero_add, List.nil_append] at q1
          obtain ⟨vo, vc, hv1⟩ := rr_slice q1
          subst hv1
          have HC := Lib.hid (HC.out.grown q2.out HC.out.size (fun i hi => (HO.out.lt i hi).1))
          have HO1 := Lib.hid q1
          have c4 := HSt.out _ HC.out
          clear q1 q2
          refine hK.out _ _ ?_ (fun hHeld => ?_)
          · exact trivial
          clear hK K
          try simp only [Act.put, List.setIfInBounds_toArray, List.set_cons_zero, List.set_cons_succ]
          refine wpAnyH_ready (rs := [16]) (by kernel_rfl) (by simp) ?_
          refine AllReadyH.cons rfl (fun K hK => ?_) AllReadyH.nil
          refine step_app_r _ HO1.out _ _ ⟨g, 0, none⟩ 0 0 (rrcs (L.drop (k + 1))) HL2.out (HN2.out _ HC.out) HV2.out rfl rfl rfl (by simp [Act.eval, Act.put]) HB1.out HC.out.size ?_
          intro v2 w4 q1 q2
          rw [Nat.add_zero] at q1
          obtain ⟨vo2, vc2, hv2⟩ := rr_slice q1
          subst hv2
          have HC := Lib.hid (HC.out.grown q2.out HC.out.size (fun i hi => (HO1.out.lt i hi).1))
          have HO2 := Lib.hid q1
          have c4 := HSt.out _ HC.out
          have f4 := HFr.out _ HC.out
          clear q1 q2
          refine hK.out _ _ ?_ (fun hHeld => ?_)
          · exact trivial
          clear hK K
          try simp only [Act.put, List.setIfInBounds_toArray, List.set_cons_zero, List.set_cons_succ]
          refine wpAnyH_take (i := 17) (oi := { dst := some 30, op := _, type := _, pos := _, after := _, guard := _ }) (v := ?_) rfl (by kernel_rfl) (by kernel_rfl) (by kernel_rfl) (fun _ _ _ h => h) (Or.inl ⟨by rfl, ?_⟩) (by assumption) ?_
          rotate_left
          · intro w hSw
            try dsimp only at hSw
            go_simp
            try with_reducible rfl
          try simp only [Act.put, List.setIfInBounds_toArray, List.set_cons_zero, List.set_cons_succ]
          refine wpAnyH_take (i := 18) (oi := { dst := some 31, op := _, type := _, pos := _, after := _, guard := _ }) (v := ?_) rfl (by kernel_rfl) (by kernel_rfl) (by kernel_rfl) (fun _ _ _ h => h) (Or.inl ⟨by rfl, ?_⟩) (by assumption) ?_
          rotate_left
          · intro w hSw
            try dsimp only at hSw
            go_simp
            try with_reducible rfl
          try simp only [Act.put, List.setIfInBounds_toArray, List.set_cons_zero, List.set_cons_succ]
          refine wpAnyH_ready (rs := [19]) (by kernel_rfl) (by simp) ?_
          refine AllReadyH.cons rfl (fun K hK => ?_) AllReadyH.nil
          go_simp
          refine hK.out _ _ ?_ (fun hHeld => ?_)
          · exact trivial
          clear hK K
          have HD := Lib.hid (HX.out.put HC.out HSub.out (by rw [HLe.out, rrcs_app]; exact HO2.out))
          try simp only [Act.put, List.setIfInBounds_toArray, List.set_cons_zero, List.set_cons_succ]
          refine wpAnyH_done (by kernel_rfl) ?_ _
          go_wp2_with fail
          go_end0
          exact ⟨rfl, ⟨_, _, HD.out.1, HA.out⟩, HD.out.2⟩
        · go_simp
          refine hK.out _ _ ?_ (fun hHeld => ?_)
          · exact trivial
          clear hK K
          try simp only [Act.put, List.setIfInBounds_toArray, List.set_cons_zero, List.set_cons_succ]
          refine wpAnyH_take (i := 7) (oi := { dst := some 20, op := _, type := _, pos := _, after := _, guard := _ }) (v := ?_) rfl (by kernel_rfl) (by kernel_rfl) (by kernel_rfl) (fun _ _ _ h => h) (Or.inl ⟨by rfl, ?_⟩) (by assumption) ?_
          rotate_left
          · intro w hSw
            try dsimp only at hSw
            go_simp
            try with_reducible rfl
          try simp only [Act.put, List.setIfInBounds_toArray, List.set_cons_zero, List.set_cons_succ]
          refine wpAnyH_ready (rs := [1]) (by kernel_rfl) (by simp) ?_
          refine AllReadyH.cons rfl (fun K hK => ?_) AllReadyH.nil
          go_simp
          refine hK.out _ _ ?_ (fun hHeld => ?_)
          · exact trivial
          clear hK K
          have HO := Lib.hid (rr_empty w.drew)
          have HC := Lib.hid (HC.out.alloc HC.out.size (.cells #[] 65))
          have c4 := HSt.out _ HC.out
          try simp only [Act.put, List.setIfInBounds_toArray, List.set_cons_zero, List.set_cons_succ]
          refine wpAnyH_ready (rs := [8]) (by kernel_rfl) (by simp) ?_
          refine AllReadyH.cons rfl (fun K hK => ?_) AllReadyH.nil
          refine step_app_r _ HO.out _ _ ⟨g, 0, none⟩ k (k + 1) (rrcs (L.take k)) HL1.out (HN1.out _ HC.out) HV1.out rfl rfl rfl (by simp [Act.eval, Act.put]) HB0.out HC.out.size ?_
          intro v1 w3 q1 q2
          rw [Nat.zero_add, List.nil_append] at q1
          obtain ⟨vo, vc, hv1⟩ := rr_slice q1
          subst hv1
          have HC := Lib.hid (HC.out.grown q2.out HC.out.size (fun i hi => (HO.out.lt i hi).1))
          have HO1 := Lib.hid q1
          have c4 := HSt.out _ HC.out
          clear q1 q2
          refine hK.out _ _ ?_ (fun hHeld => ?_)
          · exact trivial
          clear hK K
          try simp only [Act.put, List.setIfInBounds_toArray, List.set_cons_zero, List.set_cons_succ]
          refine wpAnyH_ready (rs := [16]) (by kernel_rfl) (by simp) ?_
          refine AllReadyH.cons rfl (fun K hK => ?_) AllReadyH.nil
          refine step_app_r _ HO1.out _ _ ⟨g, 0, none⟩ 0 0 (rrcs (L.drop (k + 1))) HL2.out (HN2.out _ HC.out) HV2.out rfl rfl rfl (by simp [Act.eval, Act.put]) HB1.out HC.out.size ?_
          intro v2 w4 q1 q2
          rw [Nat.add_zero] at q1
          obtain ⟨vo2, vc2, hv2⟩ := rr_slice q1
          subst hv2
          have HC := Lib.hid (HC.out.grown q2.out HC.out.size (fun i hi => (HO1.out.lt i hi).1))
          have HO2 := Lib.hid q1
          have c4 := HSt.out _ HC.out
          have f4 := HFr.out _ HC.out
          clear q1 q2
          refine hK.out _ _ ?_ (fun hHeld => ?_)
          · exact trivial
          clear hK K
          try simp only [Act.put, List.setIfInBounds_toArray, List.set_cons_zero, List.set_cons_succ]
          refine wpAnyH_take (i := 17) (oi := { dst := some 30, op := _, type := _, pos := _, after := _, guard := _ }) (v := ?_) rfl (by kernel_rfl) (by kernel_rfl) (by kernel_rfl) (fun _ _ _ h => h) (Or.inl ⟨by rfl, ?_⟩) (by assumption) ?_
          rotate_left
          · intro w hSw
            try dsimp only at hSw
            go_simp
            try with_reducible rfl
          try simp only [Act.put, List.setIfInBounds_toArray, List.set_cons_zero, List.set_cons_succ]
          refine wpAnyH_take (i := 18) (oi := { dst := some 31, op := _, type := _, pos := _, after := _, guard := _ }) (v := ?_) rfl (by kernel_rfl) (by kernel_rfl) (by kernel_rfl) (fun _ _ _ h => h) (Or.inl ⟨by rfl, ?_⟩) (by assumption) ?_
          rotate_left
          · intro w hSw
            try dsimp only at hSw
            go_simp
            try with_reducible rfl
          try simp only [Act.put, List.setIfInBounds_toArray, List.set_cons_zero, List.set_cons_succ]
          refine wpAnyH_ready (rs := [19]) (by kernel_rfl) (by simp) ?_
          refine AllReadyH.cons rfl (fun K hK => ?_) AllReadyH.nil
          go_simp
          refine hK.out _ _ ?_ (fun hHeld => ?_)
          · exact trivial
          clear hK K
          have HD := Lib.hid (HX.out.put HC.out HSub.out (by rw [HLe.out, rrcs_app]; exact HO2.out))
          try simp only [Act.put, List.setIfInBounds_toArray, List.set_cons_zero, List.set_cons_succ]
          refine wpAnyH_done (by kernel_rfl) ?_ _
          go_wp2_with fail
          go_end0
          exact ⟨rfl, ⟨_, _, HD.out.1, HA.out⟩, HD.out.2⟩
    · have HN2 := Lib.hid hn2
      have hc1 : ¬ cap = k + 1 := fun e => hcap e.symm
      have hc2 : k + 1 < cap := by omega
      clear hx h2 h3 h4 h5 hA hok s3 hc hcl hn2 hv hown c4
      have c4 : w.drew.cell? ⟨b, 4, none⟩ = some (.slice (some ⟨g, 0, none⟩) L.length cap) := HSt.out _ HC.out
      go_enter Try.func11, Try.ntmps11
      go_wp2_with fail
      refine (rmade_k S b most win lock L _ _ HX.out).mono ?_
      rintro e w' ⟨rfl, rfl⟩
      go_wp2_with fail
      refine (rfind_k S b most win lock L _ u k _ HX.out HI.out).mono ?_
      rintro e w' ⟨rfl, rfl⟩
      go_wp2_with fail
      refine wp_region_held_drew (S := fun _ => True) (by kernel_rfl) (trivial) (fun hS => ?_)
      refine wpAnyH_take (i := 0) (oi := { dst := some 13, op := _, type := _, pos := _, after := _, guard := _ }) (v := ?_) rfl (by kernel_rfl) (by kernel_rfl) (by kernel_rfl) (fun _ _ _ h => h) (Or.inl ⟨by rfl, ?_⟩) (by assumption) ?_
      rotate_left
      · intro w hSw
        try dsimp only at hSw
        go_simp
        try with_reducible rfl
      try simp only [Act.put, List.setIfInBounds_toArray, List.set_cons_zero, List.set_cons_succ]
      refine wpAnyH_take (i := 2) (oi := { dst := some 15, op := _, type := _, pos := _, after := _, guard := _ }) (v := ?_) rfl (by kernel_rfl) (by kernel_rfl) (by kernel_rfl) (fun _ _ _ h => h) (Or.inl ⟨by rfl, ?_⟩) (by assumption) ?_
      rotate_left
      · intro w hSw
        try dsimp only at hSw
        go_simp
        try with_reducible rfl
      try simp only [Act.put, List.setIfInBounds_toArray, List.set_cons_zero, List.set_cons_succ]
      refine wpAnyH_take (i := 3) (oi := { dst := some 16, op := _, type := _, pos := _, after := _, guard := _ }) (v := ?_) rfl (by kernel_rfl) (by kernel_rfl) (by kernel_rfl) (fun _ _ _ h => h) (Or.inl ⟨by rfl, ?_⟩) (by assumption) ?_
      rotate_left
      · intro w hSw
        try dsimp only at hSw
        go_simp
        try with_reducible rfl
      try simp only [Act.put, List.setIfInBounds_toArray, List.set_cons_zero, List.set_cons_succ]
      refine wpAnyH_take (i := 4) (oi := { dst := some 17, op := _, type := _, pos := _, after := _, guard := _ }) (v := ?_) rfl (by kernel_rfl) (by kernel_rfl) (by kernel_rfl) (fun _ _ _ h => h) (Or.inl ⟨by rfl, ?_⟩) (by assumption) ?_
      rotate_left
      · intro w hSw
        try dsimp only at hSw
        go_simp
        try with_reducible rfl
      try simp only [Act.put, List.setIfInBounds_toArray, List.set_cons_zero, List.set_cons_succ]
      refine wpAnyH_take (i := 6) (oi := { dst := some 19, op := _, type := _, pos := _, after := _, guard := _ }) (v := ?_) rfl (by kernel_rfl) (by kernel_rfl) (by kernel_rfl) (fun _ _ _ h => h) (Or.inl ⟨by rfl, ?_⟩) (by assumption) ?_
      rotate_left
      · intro w hSw
        try dsimp only at hSw
        go_simp
        try with_reducible rfl
      try simp only [Act.put, List.setIfInBounds_toArray, List.set_cons_zero, List.set_cons_succ]
      refine wpAnyH_take (i := 9) (oi := { dst := some 22, op := _, type := _, pos := _, after := _, guard := _ }) (v := ?_) rfl (by kernel_rfl) (by kernel_rfl) (by kernel_rfl) (fun _ _ _ h => h) (Or.inl ⟨by rfl, ?_⟩) (by assumption) ?_
      rotate_left
      · intro w hSw
        try dsimp only at hSw
        go_simp
        try with_reducible rfl
      try simp only [Act.put, List.setIfInBounds_toArray, List.set_cons_zero, List.set_cons_succ]
      refine wpAnyH_take (i := 10) (oi := { dst := some 23, op := _, type := _, pos := _, after := _, guard := _ }) (v := ?_) rfl (by kernel_rfl) (by kernel_rfl) (by kernel_rfl) (fun _ _ _ h => h) (Or.inl ⟨by rfl, ?_⟩) (by assumption) ?_
      rotate_left
      · intro w hSw
        try dsimp only at hSw
        go_simp
        try with_reducible rfl
      try simp only [Act.put, List.setIfInBounds_toArray, List.set_cons_zero, List.set_cons_succ]
      refine wpAnyH_take (i := 11) (oi := { dst := some 24, op := _, type := _, pos := _, after := _, guard := _ }) (v := ?_) rfl (by kernel_rfl) (by kernel_rfl) (by kernel_rfl) (fun _ _ _ h => h) (Or.inl ⟨by rfl, ?_⟩) (by assumption) ?_
      rotate_left
      · intro w hSw
        try dsimp only at hSw
        go_simp
        try with_reducible rfl
      try simp only [Act.put, List.setIfInBounds_toArray, List.set_cons_zero, List.set_cons_succ]
      refine wpAnyH_take (i := 13) (oi := { dst := some 26, op := _, type := _, pos := _, after := _, guard := _ }) (v := ?_) rfl (by kernel_rfl) (by kernel_rfl) (by kernel_rfl) (fun _ _ _ h => h) (Or.inl ⟨by rfl, ?_⟩) (by assumption) ?_
      rotate_left
      · intro w hSw
        try dsimp only at hSw
        go_simp
        try with_reducible rfl
      try simp only [Act.put, List.setIfInBounds_toArray, List.set_cons_zero, List.set_cons_succ]
      refine wpAnyH_take (i := 14) (oi := { dst := some 27, op := _, type := _, pos := _, after := _, guard := _ }) (v := ?_) rfl (by kernel_rfl) (by kernel_rfl) (by kernel_rfl) (fun _ _ _ h => h) (Or.inl ⟨by rfl, ?_⟩) (by assumption) ?_
      rotate_left
      · intro w hSw
        try dsimp only at hSw
        go_simp
        try with_reducible rfl
      try simp only [Act.put, List.setIfInBounds_toArray, List.set_cons_zero, List.set_cons_succ]
      refine wpAnyH_ready (rs := [1, 5, 12]) (by kernel_rfl) (by simp) ?_
      refine AllReadyH.cons rfl (fun K hK => ?_) (AllReadyH.cons rfl (fun K hK => ?_) (AllReadyH.cons rfl (fun K hK => ?_) AllReadyH.nil))
      · go_simp
        refine hK.out _ _ ?_ (fun hHeld => ?_)
        · exact trivial
        clear hK K
        have HO := Lib.hid (rr_empty w.drew)
        have HC := Lib.hid (HC.out.alloc HC.out.size (.cells #[] 65))
        have c4 := HSt.out _ HC.out
        try simp only [Act.put, List.setIfInBounds_toArray, List.set_cons_zero, List.set_cons_succ]
        refine wpAnyH_ready (rs := [5, 12]) (by kernel_rfl) (by simp) ?_
        refine AllReadyH.cons rfl (fun K hK => ?_) (AllReadyH.cons rfl (fun K hK => ?_) AllReadyH.nil)
        · go_simp
          refine hK.out _ _ ?_ (fun hHeld => ?_)
          · exact trivial
          clear hK K
          try simp only [Act.put, List.setIfInBounds_toArray, List.set_cons_zero, List.set_cons_succ]
          refine wpAnyH_take (i := 7) (oi := { dst := some 20, op := _, type := _, pos := _, after := _, guard := _ }) (v := ?_) rfl (by kernel_rfl) (by kernel_rfl) (by kernel_rfl) (fun _ _ _ h => h) (Or.inl ⟨by rfl, ?_⟩) (by assumption) ?_
          rotate_left
          · intro w hSw
            try dsimp only at hSw
            go_simp
            try with_reducible rfl
          try simp only [Act.put, List.setIfInBounds_toArray, List.set_cons_zero, List.set_cons_succ]
          refine wpAnyH_ready (rs := [8, 12]) (by kernel_rfl) (by simp) ?_
          refine AllReadyH.cons rfl (fun K hK => ?_) (AllReadyH.cons rfl (fun K hK => ?_) AllReadyH.nil)
          · refine step_app_r _ HO.out _ _ ⟨g, 0, none⟩ k cap (rrcs (L.take k)) HL1.out (HN1.out _ HC.out) HV1.out rfl rfl rfl (by simp [Act.eval, Act.put]) HB0.out HC.out.size ?_
            intro v1 w3 q1 q2
            rw [Nat.zero_add, List.nil_append] at q1
            obtain ⟨vo, vc, hv1⟩ := rr_slice q1
            subst hv1
            have HC := Lib.hid (HC.out.grown q2.out HC.out.size (fun i hi => (HO.out.lt i hi).1))
            have HO1 := Lib.hid q1
            have c4 := HSt.out _ HC.out
            clear q1 q2
            refine hK.out _ _ ?_ (fun hHeld => ?_)
            · exact trivial
            clear hK K
            try simp only [Act.put, List.setIfInBounds_toArray, List.set_cons_zero, List.set_cons_succ]
            refine wpAnyH_ready (rs := [12]) (by kernel_rfl) (by simp) ?_
            refine AllReadyH.cons rfl (fun K hK => ?_) AllReadyH.nil
            go_simp
            refine hK.out _ _ ?_ (fun hHeld => ?_)
            · exact trivial
            clear hK K
            try simp only [Act.put, List.setIfInBounds_toArray, List.set_cons_zero, List.set_cons_succ]
            refine wpAnyH_take (i := 15) (oi := { dst := some 28, op := _, type := _, pos := _, after := _, guard := _ }) (v := ?_) rfl (by kernel_rfl) (by kernel_rfl) (by kernel_rfl) (fun _ _ _ h => h) (Or.inl ⟨by rfl, ?_⟩) (by assumption) ?_
            rotate_left
            · intro w hSw
              try dsimp only at hSw
              go_simp
              try with_reducible rfl
            try simp only [Act.put, List.setIfInBounds_toArray, List.set_cons_zero, List.set_cons_succ]
            refine wpAnyH_ready (rs := [16]) (by kernel_rfl) (by simp) ?_
            refine AllReadyH.cons rfl (fun K hK => ?_) AllReadyH.nil
            refine step_app_r _ HO1.out _ _ ⟨g, (k + 1) * 3, none⟩ (L.length - (k + 1)) (cap - (k + 1)) (rrcs (L.drop (k + 1))) HL2.out (HN2.out _ HC.out) HV2.out rfl rfl rfl (by simp [Act.eval, Act.put]) HB1.out HC.out.size ?_
            intro v2 w4 q1 q2
            obtain ⟨vo2, vc2, hv2⟩ := rr_slice q1
            subst hv2
            have HC := Lib.hid (HC.out.grown q2.out HC.out.size (fun i hi => (HO1.out.lt i hi).1))
            have HO2 := Lib.hid q1
            have c4 := HSt.out _ HC.out
            have f4 := HFr.out _ HC.out
            clear q1 q2
            refine hK.out _ _ ?_ (fun hHeld => ?_)
            · exact trivial
            clear hK K
            try simp only [Act.put, List.setIfInBounds_toArray, List.set_cons_zero, List.set_cons_succ]
            refine wpAnyH_take (i := 17) (oi := { dst := some 30, op := _, type := _, pos := _, after := _, guard := _ }) (v := ?_) rfl (by kernel_rfl) (by kernel_rfl) (by kernel_rfl) (fun _ _ _ h => h) (Or.inl ⟨by rfl, ?_⟩) (by assumption) ?_
            rotate_left
            · intro w hSw
              try dsimp only at hSw
              go_simp
              try with_reducible rfl
            try simp only [Act.put, List.setIfInBounds_toArray, List.set_cons_zero, List.set_cons_succ]
            refine wpAnyH_take (i := 18) (oi := { dst := some 31, op := _, type := _, pos := _, after := _, guard := _ }) (v := ?_) rfl (by kernel_rfl) (by kernel_rfl) (by kernel_rfl) (fun _ _ _ h => h) (Or.inl ⟨by rfl, ?_⟩) (by assumption) ?_
            rotate_left
            · intro w hSw
              try dsimp only at hSw
              go_simp
              try with_reducible rfl
            try simp only [Act.put, List.setIfInBounds_toArray, List.set_cons_zero, List.set_cons_succ]
            refine wpAnyH_ready (rs := [19]) (by kernel_rfl) (by simp) ?_
            refine AllReadyH.cons rfl (fun K hK => ?_) AllReadyH.nil
            go_simp
            refine hK.out _ _ ?_ (fun hHeld => ?_)
            · exact trivial
            clear hK K
            have HD := Lib.hid (HX.out.put HC.out HSub.out (by rw [HLe.out, rrcs_app]; exact HO2.out))
            try simp only [Act.put, List.setIfInBounds_toArray, List.set_cons_zero, List.set_cons_succ]
            refine wpAnyH_done (by kernel_rfl) ?_ _
            go_wp2_with fail
            go_end0
            exact ⟨rfl, ⟨_, _, HD.out.1, HA.out⟩, HD.out.2⟩
          · go_simp
            refine hK.out _ _ ?_ (fun hHeld => ?_)
            · exact trivial
            clear hK K
            try simp only [Act.put, List.setIfInBounds_toArray, List.set_cons_zero, List.set_cons_succ]
            refine wpAnyH_take (i := 15) (oi := { dst := some 28, op := _, type := _, pos := _, after := _, guard := _ }) (v := ?_) rfl (by kernel_rfl) (by kernel_rfl) (by kernel_rfl) (fun _ _ _ h => h) (Or.inl ⟨by rfl, ?_⟩) (by assumption) ?_
            rotate_left
            · intro w hSw
              try dsimp only at hSw
              go_simp
              try with_reducible rfl
            try simp only [Act.put, List.setIfInBounds_toArray, List.set_cons_zero, List.set_cons_succ]
            refine wpAnyH_ready (rs := [8]) (by kernel_rfl) (by simp) ?_
            refine AllReadyH.cons rfl (fun K hK => ?_) AllReadyH.nil
            refine step_app_r _ HO.out _ _ ⟨g, 0, none⟩ k cap (rrcs (L.take k)) HL1.out (HN1.out _ HC.out) HV1.out rfl rfl rfl (by simp [Act.eval, Act.put]) HB0.out HC.out.size ?_
            intro v1 w3 q1 q2
            rw [Nat.zero_add, List.nil_append] at q1
            obtain ⟨vo, vc, hv1⟩ := rr_slice q1
            subst hv1
            have HC := Lib.hid (HC.out.grown q2.out HC.out.size (fun i hi => (HO.out.lt i hi).1))
            have HO1 := Lib.hid q1
            have c4 := HSt.out _ HC.out
            clear q1 q2
            refine hK.out _ _ ?_ (fun hHeld => ?_)
            · exact trivial
            clear hK K
            try simp only [Act.put, List.setIfInBounds_toArray, List.set_cons_zero, List.set_cons_succ]
            refine wpAnyH_ready (rs := [16]) (by kernel_rfl) (by simp) ?_
            refine AllReadyH.cons rfl (fun K hK => ?_) AllReadyH.nil
            refine step_app_r _ HO1.out _ _ ⟨g, (k + 1) * 3, none⟩ (L.length - (k + 1)) (cap - (k + 1)) (rrcs (L.drop (k + 1))) HL2.out (HN2.out _ HC.out) HV2.out rfl rfl rfl (by simp [Act.eval, Act.put]) HB1.out HC.out.size ?_
            intro v2 w4 q1 q2
            obtain ⟨vo2, vc2, hv2⟩ := rr_slice q1
            subst hv2
            have HC := Lib.hid (HC.out.grown q2.out HC.out.size (fun i hi => (HO1.out.lt i hi).1))
            have HO2 := Lib.hid q1
            have c4 := HSt.out _ HC.out
            have f4 := HFr.out _ HC.out
            clear q1 q2
            refine hK.out _ _ ?_ (fun hHeld => ?_)
            · exact trivial
            clear hK K
            try simp only [Act.put, List.setIfInBounds_toArray, List.set_cons_zero, List.set_cons_succ]
            refine wpAnyH_take (i := 17) (oi := { dst := some 30, op := _, type := _, pos := _, after := _, guard := _ }) (v := ?_) rfl (by kernel_rfl) (by kernel_rfl) (by kernel_rfl) (fun _ _ _ h => h) (Or.inl ⟨by rfl, ?_⟩) (by assumption) ?_
            rotate_left
            · intro w hSw
              try dsimp only at hSw
              go_simp
              try with_reducible rfl
            try simp only [Act.put, List.setIfInBounds_toArray, List.set_cons_zero, List.set_cons_succ]
            refine wpAnyH_take (i := 18) (oi := { dst := some 31, op := _, type := _, pos := _, after := _, guard := _ }) (v := ?_) rfl (by kernel_rfl) (by kernel_rfl) (by kernel_rfl) (fun _ _ _ h => h) (Or.inl ⟨by rfl, ?_⟩) (by assumption) ?_
            rotate_left
            · intro w hSw
              try dsimp only at hSw
              go_simp
              try with_reducible rfl
            try simp only [Act.put, List.setIfInBounds_toArray, List.set_cons_zero, List.set_cons_succ]
            refine wpAnyH_ready (rs := [19]) (by kernel_rfl) (by simp) ?_
            refine AllReadyH.cons rfl (fun K hK => ?_) AllReadyH.nil
            go_simp
            refine hK.out _ _ ?_ (fun hHeld => ?_)
            · exact trivial
            clear hK K
            have HD := Lib.hid (HX.out.put HC.out HSub.out (by rw [HLe.out, rrcs_app]; exact HO2.out))
            try simp only [Act.put, List.setIfInBounds_toArray, List.set_cons_zero, List.set_cons_succ]
            refine wpAnyH_done (by kernel_rfl) ?_ _
            go_wp2_with fail
            go_end0
            exact ⟨rfl, ⟨_, _, HD.out.1, HA.out⟩, HD.out.2⟩
        · go_simp
          refine hK.out _ _ ?_ (fun hHeld => ?_)
          · exact trivial
          clear hK K
          try simp only [Act.put, List.setIfInBounds_toArray, List.set_cons_zero, List.set_cons_succ]
          refine wpAnyH_take (i := 15) (oi := { dst := some 28, op := _, type := _, pos := _, after := _, guard := _ }) (v := ?_) rfl (by kernel_rfl) (by kernel_rfl) (by kernel_rfl) (fun _ _ _ h => h) (Or.inl ⟨by rfl, ?_⟩) (by assumption) ?_
          rotate_left
          · intro w hSw
            try dsimp only at hSw
            go_simp
            try with_reducible rfl
          try simp only [Act.put, List.setIfInBounds_toArray, List.set_cons_zero, List.set_cons_succ]
          refine wpAnyH_ready (rs := [5]) (by kernel_rfl) (by simp) ?_
          refine AllReadyH.cons rfl (fun K hK => ?_) AllReadyH.nil
          go_simp
          refine hK.out _ _ ?_ (fun hHeld => ?_)
          · exact trivial
          clear hK K
          try simp only [Act.put, List.setIfInBounds_toArray, List.set_cons_zero, List.set_cons_succ]
          refine wpAnyH_take (i := 7) (oi := { dst := some 20, op := _, type := _, pos := _, after := _, guard := _ }) (v := ?_) rfl (by kernel_rfl) (by kernel_rfl) (by kernel_rfl) (fun _ _ _ h => h) (Or.inl ⟨by rfl, ?_⟩) (by assumption) ?_
          rotate_left
          · intro w hSw
            try dsimp only at hSw
            go_simp
            try with_reducible rfl
          try simp only [Act.put, List.setIfInBounds_toArray, List.set_cons_zero, List.set_cons_succ]
          refine wpAnyH_ready (rs := [8]) (by kernel_rfl) (by simp) ?_
          refine AllReadyH.cons rfl (fun K hK => ?_) AllReadyH.nil
          refine step_app_r _ HO.out _ _ ⟨g, 0, none⟩ k cap (rrcs (L.take k)) HL1.out (HN1.out _ HC.out) HV1.out rfl rfl rfl (by simp [Act.eval, Act.put]) HB0.out HC.out.size ?_
          intro v1 w3 q1 q2
          rw [Nat.zero_add, List.nil_append] at q1
          obtain ⟨vo, vc, hv1⟩ := rr_slice q1
          subst hv1
          have HC := Lib.hid (HC.out.grown q2.out HC.out.size (fun i hi => (HO.out.lt i hi).1))
          have HO1 := Lib.hid q1
          have c4 := HSt.out _ HC.out
          clear q1 q2
          refine hK.out _ _ ?_ (fun hHeld => ?_)
          · exact trivial
          clear hK K
          try simp only [Act.put, List.setIfInBounds_toArray, List.set_cons_zero, List.set_cons_succ]
          refine wpAnyH_ready (rs := [16]) (by kernel_rfl) (by simp) ?_
          refine AllReadyH.cons rfl (fun K hK => ?_) AllReadyH.nil
          refine step_app_r _ HO1.out _ _ ⟨g, (k + 1) * 3, none⟩ (L.length - (k + 1)) (cap - (k + 1)) (rrcs (L.drop (k + 1))) HL2.out (HN2.out _ HC.out) HV2.out rfl rfl rfl (by simp [Act.eval, Act.put]) HB1.out HC.out.size ?_
          intro v2 w4 q1 q2
          obtain ⟨vo2, vc2, hv2⟩ := rr_slice q1
          subst hv2
          have HC := Lib.hid (HC.out.grown q2.out HC.out.size (fun i hi => (HO1.out.lt i hi).1))
          have HO2 := Lib.hid q1
          have c4 := HSt.out _ HC.out
          have f4 := HFr.out _ HC.out
          clear q1 q2
          refine hK.out _ _ ?_ (fun hHeld => ?_)
          · exact trivial
          clear hK K
          try simp only [Act.put, List.setIfInBounds_toArray, List.set_cons_zero, List.set_cons_succ]
          refine wpAnyH_take (i := 17) (oi := { dst := some 30, op := _, type := _, pos := _, after := _, guard := _ }) (v := ?_) rfl (by kernel_rfl) (by kernel_rfl) (by kernel_rfl) (fun _ _ _ h => h) (Or.inl ⟨by rfl, ?_⟩) (by assumption) ?_
          rotate_left
          · intro w hSw
            try dsimp only at hSw
            go_simp
            try with_reducible rfl
          try simp only [Act.put, List.setIfInBounds_toArray, List.set_cons_zero, List.set_cons_succ]
          refine wpAnyH_take (i := 18) (oi := { dst := some 31, op := _, type := _, pos := _, after := _, guard := _ }) (v := ?_) rfl (by kernel_rfl) (by kernel_rfl) (by kernel_rfl) (fun _ _ _ h => h) (Or.inl ⟨by rfl, ?_⟩) (by assumption) ?_
          rotate_left
          · intro w hSw
            try dsimp only at hSw
            go_simp
            try with_reducible rfl
          try simp only [Act.put, List.setIfInBounds_toArray, List.set_cons_zero, List.set_cons_succ]
          refine wpAnyH_ready (rs := [19]) (by kernel_rfl) (by simp) ?_
          refine AllReadyH.cons rfl (fun K hK => ?_) AllReadyH.nil
          go_simp
          refine hK.out _ _ ?_ (fun hHeld => ?_)
          · exact trivial
          clear hK K
          have HD := Lib.hid (HX.out.put HC.out HSub.out (by rw [HLe.out, rrcs_app]; exact HO2.out))
          try simp only [Act.put, List.setIfInBounds_toArray, List.set_cons_zero, List.set_cons_succ]
          refine wpAnyH_done (by kernel_rfl) ?_ _
          go_wp2_with fail
          go_end0
          exact ⟨rfl, ⟨_, _, HD.out.1, HA.out⟩, HD.out.2⟩
      · go_simp
        refine hK.out _ _ ?_ (fun hHeld => ?_)
        · exact trivial
        clear hK K
        try simp only [Act.put, List.setIfInBounds_toArray, List.set_cons_zero, List.set_cons_succ]
        refine wpAnyH_take (i := 7) (oi := { dst := some 20, op := _, type := _, pos := _, after := _, guard := _ }) (v := ?_) rfl (by kernel_rfl) (by kernel_rfl) (by kernel_rfl) (fun _ _ _ h => h) (Or.inl ⟨by rfl, ?_⟩) (by assumption) ?_
        rotate_left
        · intro w hSw
          try dsimp only at hSw
          go_simp
          try with_reducible rfl
        try simp only [Act.put, List.setIfInBounds_toArray, List.set_cons_zero, List.set_cons_succ]
        refine wpAnyH_ready (rs := [1, 12]) (by kernel_rfl) (by simp) ?_
        refine AllReadyH.cons rfl (fun K hK => ?_) (AllReadyH.cons rfl (fun K hK => ?_) AllReadyH.nil)
        · go_simp
          refine hK.out _ _ ?_ (fun hHeld => ?_)
          · exact trivial
          clear hK K
          have HO := Lib.hid (rr_empty w.drew)
          have HC := Lib.hid (HC.out.alloc HC.out.size (.cells #[] 65))
          have c4 := HSt.out _ HC.out
          try simp only [Act.put, List.setIfInBounds_toArray, List.set_cons_zero, List.set_cons_succ]
          refine wpAnyH_ready (rs := [8, 12]) (by kernel_rfl) (by simp) ?_
          refine AllReadyH.cons rfl (fun K hK => ?_) (AllReadyH.cons rfl (fun K hK => ?_) AllReadyH.nil)
          · refine step_app_r _ HO.out _ _ ⟨g, 0, none⟩ k cap (rrcs (L.take k)) HL1.out (HN1.out _ HC.out) HV1.out rfl rfl rfl (by simp [Act.eval, Act.put]) HB0.out HC.out.size ?_
            intro v1 w3 q1 q2
            rw [Nat.zero_add, List.nil_append] at q1
            obtain ⟨vo, vc, hv1⟩ := rr_slice q1
            subst hv1
            have HC := Lib.hid (HC.out.grown q2.out HC.out.size (fun i hi => (HO.out.lt i hi).1))
            have HO1 := Lib.hid q1
            have c4 := HSt.out _ HC.out
            clear q1 q2
            refine hK.out _ _ ?_ (fun hHeld => ?_)
            · exact trivial
            clear hK K
            try simp only [Act.put, List.setIfInBounds_toArray, List.set_cons_zero, List.set_cons_succ]
            refine wpAnyH_ready (rs := [12]) (by kernel_rfl) (by simp) ?_
            refine AllReadyH.cons rfl (fun K hK => ?_) AllReadyH.nil
            go_simp
            refine hK.out _ _ ?_ (fun hHeld => ?_)
            · exact trivial
            clear hK K
            try simp only [Act.put, List.setIfInBounds_toArray, List.set_cons_zero, List.set_cons_succ]
            refine wpAnyH_take (i := 15) (oi := { dst := some 28, op := _, type := _, pos := _, after := _, guard := _ }) (v := ?_) rfl (by kernel_rfl) (by kernel_rfl) (by kernel_rfl) (fun _ _ _ h => h) (Or.inl ⟨by rfl, ?_⟩) (by assumption) ?_
            rotate_left
            · intro w hSw
              try dsimp only at hSw
              go_simp
              try with_reducible rfl
            try simp only [Act.put, List.setIfInBounds_toArray, List.set_cons_zero, List.set_cons_succ]
            refine wpAnyH_ready (rs := [16]) (by kernel_rfl) (by simp) ?_
            refine AllReadyH.cons rfl (fun K hK => ?_) AllReadyH.nil
            refine step_app_r _ HO1.out _ _ ⟨g, (k + 1) * 3, none⟩ (L.length - (k + 1)) (cap - (k + 1)) (rrcs (L.drop (k + 1))) HL2.out (HN2.out _ HC.out) HV2.out rfl rfl rfl (by simp [Act.eval, Act.put]) HB1.out HC.out.size ?_
            intro v2 w4 q1 q2
            obtain ⟨vo2, vc2, hv2⟩ := rr_slice q1
            subst hv2
            have HC := Lib.hid (HC.out.grown q2.out HC.out.size (fun i hi => (HO1.out.lt i hi).1))
            have HO2 := Lib.hid q1
            have c4 := HSt.out _ HC.out
            have f4 := HFr.out _ HC.out
            clear q1 q2
            refine hK.out _ _ ?_ (fun hHeld => ?_)
            · exact trivial
            clear hK K
            try simp only [Act.put, List.setIfInBounds_toArray, List.set_cons_zero, List.set_cons_succ]
            refine wpAnyH_take (i := 17) (oi := { dst := some 30, op := _, type := _, pos := _, after := _, guard := _ }) (v := ?_) rfl (by kernel_rfl) (by kernel_rfl) (by kernel_rfl) (fun _ _ _ h => h) (Or.inl ⟨by rfl, ?_⟩) (by assumption) ?_
            rotate_left
            · intro w hSw
              try dsimp only at hSw
              go_simp
              try with_reducible rfl
            try simp only [Act.put, List.setIfInBounds_toArray, List.set_cons_zero, List.set_cons_succ]
            refine wpAnyH_take (i := 18) (oi := { dst := some 31, op := _, type := _, pos := _, after := _, guard := _ }) (v := ?_) rfl (by kernel_rfl) (by kernel_rfl) (by kernel_rfl) (fun _ _ _ h => h) (Or.inl ⟨by rfl, ?_⟩) (by assumption) ?_
            rotate_left
            · intro w hSw
              try dsimp only at hSw
              go_simp
              try with_reducible rfl
            try simp only [Act.put, List.setIfInBounds_toArray, List.set_cons_zero, List.set_cons_succ]
            refine wpAnyH_ready (rs := [19]) (by kernel_rfl) (by simp) ?_
            refine AllReadyH.cons rfl (fun K hK => ?_) AllReadyH.nil
            go_simp
            refine hK.out _ _ ?_ (fun hHeld => ?_)
            · exact trivial
            clear hK K
            have HD := Lib.hid (HX.out.put HC.out HSub.out (by rw [HLe.out, rrcs_app]; exact HO2.out))
            try simp only [Act.put, List.setIfInBounds_toArray, List.set_cons_zero, List.set_cons_succ]
            refine wpAnyH_done (by kernel_rfl) ?_ _
            go_wp2_with fail
            go_end0
            exact ⟨rfl, ⟨_, _, HD.out.1, HA.out⟩, HD.out.2⟩
          · go_simp
            refine hK.out _ _ ?_ (fun hHeld => ?_)
            · exact trivial
            clear hK K
            try simp only [Act.put, List.setIfInBounds_toArray, List.set_cons_zero, List.set_cons_succ]
            refine wpAnyH_take (i := 15) (oi := { dst := some 28, op := _, type := _, pos := _, after := _, guard := _ }) (v := ?_) rfl (by kernel_rfl) (by kernel_rfl) (by kernel_rfl) (fun _ _ _ h => h) (Or.inl ⟨by rfl, ?_⟩) (by assumption) ?_
            rotate_left
            · intro w hSw
              try dsimp only at hSw
              go_simp
              try with_reducible rfl
            try simp only [Act.put, List.setIfInBounds_toArray, List.set_cons_zero, List.set_cons_succ]
            refine wpAnyH_ready (rs := [8]) (by kernel_rfl) (by simp) ?_
            refine AllReadyH.cons rfl (fun K hK => ?_) AllReadyH.nil
            refine step_app_r _ HO.out _ _ ⟨g, 0, none⟩ k cap (rrcs (L.take k)) HL1.out (HN1.out _ HC.out) HV1.out rfl rfl rfl (by simp [Act.eval, Act.put]) HB0.out HC.out.size ?_
            intro v1 w3 q1 q2
            rw [Nat.zero_add, List.nil_append] at q1
            obtain ⟨vo, vc, hv1⟩ := rr_slice q1
            subst hv1
            have HC := Lib.hid (HC.out.grown q2.out HC.out.size (fun i hi => (HO.out.lt i hi).1))
            have HO1 := Lib.hid q1
            have c4 := HSt.out _ HC.out
            clear q1 q2
            refine hK.out _ _ ?_ (fun hHeld => ?_)
            · exact trivial
            clear hK K
            try simp only [Act.put, List.setIfInBounds_toArray, List.set_cons_zero, List.set_cons_succ]
            refine wpAnyH_ready (rs := [16]) (by kernel_rfl) (by simp) ?_
            refine AllReadyH.cons rfl (fun K hK => ?_) AllReadyH.nil
            refine step_app_r _ HO1.out _ _ ⟨g, (k + 1) * 3, none⟩ (L.length - (k + 1)) (cap - (k + 1)) (rrcs (L.drop (k + 1))) HL2.out (HN2.out _ HC.out) HV2.out rfl rfl rfl (by simp [Act.eval, Act.put]) HB1.out HC.out.size ?_
            intro v2 w4 q1 q2
            obtain ⟨vo2, vc2, hv2⟩ := rr_slice q1
            subst hv2
            have HC := Lib.hid (HC.out.grown q2.out HC.out.size (fun i hi => (HO1.out.lt i hi).1))
            have HO2 := Lib.hid q1
            have c4 := HSt.out _ HC.out
            have f4 := HFr.out _ HC.out
            clear q1 q2
            refine hK.out _ _ ?_ (fun hHeld => ?_)
            · exact trivial
            clear hK K
            try simp only [Act.put, List.setIfInBounds_toArray, List.set_cons_zero, List.set_cons_succ]
            refine wpAnyH_take (i := 17) (oi := { dst := some 30, op := _, type := _, pos := _, after := _, guard := _ }) (v := ?_) rfl (by kernel_rfl) (by kernel_rfl) (by kernel_rfl) (fun _ _ _ h => h) (Or.inl ⟨by rfl, ?_⟩) (by assumption) ?_
            rotate_left
            · intro w hSw
              try dsimp only at hSw
              go_simp
              try with_reducible rfl
            try simp only [Act.put, List.setIfInBounds_toArray, List.set_cons_zero, List.set_cons_succ]
            refine wpAnyH_take (i := 18) (oi := { dst := some 31, op := _, type := _, pos := _, after := _, guard := _ }) (v := ?_) rfl (by kernel_rfl) (by kernel_rfl) (by kernel_rfl) (fun _ _ _ h => h) (Or.inl ⟨by rfl, ?_⟩) (by assumption) ?_
            rotate_left
            · intro w hSw
              try dsimp only at hSw
              go_simp
              try with_reducible rfl
            try simp only [Act.put, List.setIfInBounds_toArray, List.set_cons_zero, List.set_cons_succ]
            refine wpAnyH_ready (rs := [19]) (by kernel_rfl) (by simp) ?_
            refine AllReadyH.cons rfl (fun K hK => ?_) AllReadyH.nil
            go_simp
            refine hK.out _ _ ?_ (fun hHeld => ?_)
            · exact trivial
            clear hK K
            have HD := Lib.hid (HX.out.put HC.out HSub.out (by rw [HLe.out, rrcs_app]; exact HO2.out))
            try simp only [Act.put, List.setIfInBounds_toArray, List.set_cons_zero, List.set_cons_succ]
            refine wpAnyH_done (by kernel_rfl) ?_ _
            go_wp2_with fail
            go_end0
            exact ⟨rfl, ⟨_, _, HD.out.1, HA.out⟩, HD.out.2⟩
        · go_simp
          refine hK.out _ _ ?_ (fun hHeld => ?_)
          · exact trivial
          clear hK K
          try simp only [Act.put, List.setIfInBounds_toArray, List.set_cons_zero, List.set_cons_succ]
          refine wpAnyH_take (i := 15) (oi := { dst := some 28, op := _, type := _, pos := _, after := _, guard := _ }) (v := ?_) rfl (by kernel_rfl) (by kernel_rfl) (by kernel_rfl) (fun _ _ _ h => h) (Or.inl ⟨by rfl, ?_⟩) (by assumption) ?_
          rotate_left
          · intro w hSw
            try dsimp only at hSw
            go_simp
            try with_reducible rfl
          try simp only [Act.put, List.setIfInBounds_toArray, List.set_cons_zero, List.set_cons_succ]
          refine wpAnyH_ready (rs := [1]) (by kernel_rfl) (by simp) ?_
          refine AllReadyH.cons rfl (fun K hK => ?_) AllReadyH.nil
          go_simp
          refine hK.out _ _ ?_ (fun hHeld => ?_)
          · exact trivial
          clear hK K
          have HO := Lib.hid (rr_empty w.drew)
          have HC := Lib.hid (HC.out.alloc HC.out.size (.cells #[] 65))
          have c4 := HSt.out _ HC.out
          try simp only [Act.put, List.setIfInBounds_toArray, List.set_cons_zero, List.set_cons_succ]
          refine wpAnyH_ready (rs := [8]) (by kernel_rfl) (by simp) ?_
          refine AllReadyH.cons rfl (fun K hK => ?_) AllReadyH.nil
          refine step_app_r _ HO.out _ _ ⟨g, 0, none⟩ k cap (rrcs (L.take k)) HL1.out (HN1.out _ HC.out) HV1.out rfl rfl rfl (by simp [Act.eval, Act.put]) HB0.out HC.out.size ?_
          intro v1 w3 q1 q2
          rw [Nat.zero_add, List.nil_append] at q1
          obtain ⟨vo, vc, hv1⟩ := rr_slice q1
          subst hv1
          have HC := Lib.hid (HC.out.grown q2.out HC.out.size (fun i hi => (HO.out.lt i hi).1))
          have HO1 := Lib.hid q1
          have c4 := HSt.out _ HC.out
          clear q1 q2
          refine hK.out _ _ ?_ (fun hHeld => ?_)
          · exact trivial
          clear hK K
          try simp only [Act.put, List.setIfInBounds_toArray, List.set_cons_zero, List.set_cons_succ]
          refine wpAnyH_ready (rs := [16]) (by kernel_rfl) (by simp) ?_
          refine AllReadyH.cons rfl (fun K hK => ?_) AllReadyH.nil
          refine step_app_r _ HO1.out _ _ ⟨g, (k + 1) * 3, none⟩ (L.length - (k + 1)) (cap - (k + 1)) (rrcs (L.drop (k + 1))) HL2.out (HN2.out _ HC.out) HV2.out rfl rfl rfl (by simp [Act.eval, Act.put]) HB1.out HC.out.size ?_
          intro v2 w4 q1 q2
          obtain ⟨vo2, vc2, hv2⟩ := rr_slice q1
          subst hv2
          have HC := Lib.hid (HC.out.grown q2.out HC.out.size (fun i hi => (HO1.out.lt i hi).1))
          have HO2 := Lib.hid q1
          have c4 := HSt.out _ HC.out
          have f4 := HFr.out _ HC.out
          clear q1 q2
          refine hK.out _ _ ?_ (fun hHeld => ?_)
          · exact trivial
          clear hK K
          try simp only [Act.put, List.setIfInBounds_toArray, List.set_cons_zero, List.set_cons_succ]
          refine wpAnyH_take (i := 17) (oi := { dst := some 30, op := _, type := _, pos := _, after := _, guard := _ }) (v := ?_) rfl (by kernel_rfl) (by kernel_rfl) (by kernel_rfl) (fun _ _ _ h => h) (Or.inl ⟨by rfl, ?_⟩) (by assumption) ?_
          rotate_left
          · intro w hSw
            try dsimp only at hSw
            go_simp
            try with_reducible rfl
          try simp only [Act.put, List.setIfInBounds_toArray, List.set_cons_zero, List.set_cons_succ]
          refine wpAnyH_take (i := 18) (oi := { dst := some 31, op := _, type := _, pos := _, after := _, guard := _ }) (v := ?_) rfl (by kernel_rfl) (by kernel_rfl) (by kernel_rfl) (fun _ _ _ h => h) (Or.inl ⟨by rfl, ?_⟩) (by assumption) ?_
          rotate_left
          · intro w hSw
            try dsimp only at hSw
            go_simp
            try with_reducible rfl
          try simp only [Act.put, List.setIfInBounds_toArray, List.set_cons_zero, List.set_cons_succ]
          refine wpAnyH_ready (rs := [19]) (by kernel_rfl) (by simp) ?_
          refine AllReadyH.cons rfl (fun K hK => ?_) AllReadyH.nil
          go_simp
          refine hK.out _ _ ?_ (fun hHeld => ?_)
          · exact trivial
          clear hK K
          have HD := Lib.hid (HX.out.put HC.out HSub.out (by rw [HLe.out, rrcs_app]; exact HO2.out))
          try simp only [Act.put, List.setIfInBounds_toArray, List.set_cons_zero, List.set_cons_succ]
          refine wpAnyH_done (by kernel_rfl) ?_ _
          go_wp2_with fail
          go_end0
          exact ⟨rfl, ⟨_, _, HD.out.1, HA.out⟩, HD.out.2⟩
      · go_simp
        refine hK.out _ _ ?_ (fun hHeld => ?_)
        · exact trivial
        clear hK K
        try simp only [Act.put, List.setIfInBounds_toArray, List.set_cons_zero, List.set_cons_succ]
        refine wpAnyH_take (i := 15) (oi := { dst := some 28, op := _, type := _, pos := _, after := _, guard := _ }) (v := ?_) rfl (by kernel_rfl) (by kernel_rfl) (by kernel_rfl) (fun _ _ _ h => h) (Or.inl ⟨by rfl, ?_⟩) (by assumption) ?_
        rotate_left
        · intro w hSw
          try dsimp only at hSw
          go_simp
          try with_reducible rfl
        try simp only [Act.put, List.setIfInBounds_toArray, List.set_cons_zero, List.set_cons_succ]
        refine wpAnyH_ready (rs := [1, 5]) (by kernel_rfl) (by simp) ?_
        refine AllReadyH.cons rfl (fun K hK => ?_) (AllReadyH.cons rfl (fun K hK => ?_) AllReadyH.nil)
        · go_simp
          refine hK.out _ _ ?_ (fun hHeld => ?_)
          · exact trivial
          clear hK K
          have HO := Lib.hid (rr_empty w.drew)
          have HC := Lib.hid (HC.out.alloc HC.out.size (.cells #[] 65))
          have c4 := HSt.out _ HC.out
          try simp only [Act.put, List.setIfInBounds_toArray, List.set_cons_zero, List.set_cons_succ]
          refine wpAnyH_ready (rs := [5]) (by kernel_rfl) (by simp) ?_
          refine AllReadyH.cons rfl (fun K hK => ?_) AllReadyH.nil
          go_simp
          refine hK.out _ _ ?_ (fun hHeld => ?_)
          · exact trivial
          clear hK K
          try simp only [Act.put, List.setIfInBounds_toArray, List.set_cons_zero, List.set_cons_succ]
          refine wpAnyH_take (i := 7) (oi := { dst := some 20, op := _, type := _, pos := _, after := _, guard := _ }) (v := ?_) rfl (by kernel_rfl) (by kernel_rfl) (by kernel_rfl) (fun _ _ _ h => h) (Or.inl ⟨by rfl, ?_⟩) (by assumption) ?_
          rotate_left
          · intro w hSw
            try dsimp only at hSw
            go_simp
            try with_reducible rfl
          try simp only [Act.put, List.setIfInBounds_toArray, List.set_cons_zero, List.set_cons_succ]
          refine wpAnyH_ready (rs := [8]) (by kernel_rfl) (by simp) ?_
          refine AllReadyH.cons rfl (fun K hK => ?_) AllReadyH.nil
          refine step_app_r _ HO.out _ _ ⟨g, 0, none⟩ k cap (rrcs (L.take k)) HL1.out (HN1.out _ HC.out) HV1.out rfl rfl rfl (by simp [Act.eval, Act.put]) HB0.out HC.out.size ?_
          intro v1 w3 q1 q2
          rw [Nat.zero_add, List.nil_append] at q1
          obtain ⟨vo, vc, hv1⟩ := rr_slice q1
          subst hv1
          have HC := Lib.hid (HC.out.grown q2.out HC.out.size (fun i hi => (HO.out.lt i hi).1))
          have HO1 := Lib.hid q1
          have c4 := HSt.out _ HC.out
          clear q1 q2
          refine hK.out _ _ ?_ (fun hHeld => ?_)
          · exact trivial
          clear hK K
          try simp only [Act.put, List.setIfInBounds_toArray, List.set_cons_zero, List.set_cons_succ]
          refine wpAnyH_ready (rs := [16]) (by kernel_rfl) (by simp) ?_
          refine AllReadyH.cons rfl (fun K hK => ?_) AllReadyH.nil
          refine step_app_r _ HO1.out _ _ ⟨g, (k + 1) * 3, none⟩ (L.length - (k + 1)) (cap - (k + 1)) (rrcs (L.drop (k + 1))) HL2.out (HN2.out _ HC.out) HV2.out rfl rfl rfl (by simp [Act.eval, Act.put]) HB1.out HC.out.size ?_
          intro v2 w4 q1 q2
          obtain ⟨vo2, vc2, hv2⟩ := rr_slice q1
          subst hv2
          have HC := Lib.hid (HC.out.grown q2.out HC.out.size (fun i hi => (HO1.out.lt i hi).1))
          have HO2 := Lib.hid q1
          have c4 := HSt.out _ HC.out
          have f4 := HFr.out _ HC.out
          clear q1 q2
          refine hK.out _ _ ?_ (fun hHeld => ?_)
          · exact trivial
          clear hK K
          try simp only [Act.put, List.setIfInBounds_toArray, List.set_cons_zero, List.set_cons_succ]
          refine wpAnyH_take (i := 17) (oi := { dst := some 30, op := _, type := _, pos := _, after := _, guard := _ }) (v := ?_) rfl (by kernel_rfl) (by kernel_rfl) (by kernel_rfl) (fun _ _ _ h => h) (Or.inl ⟨by rfl, ?_⟩) (by assumption) ?_
          rotate_left
          · intro w hSw
            try dsimp only at hSw
            go_simp
            try with_reducible rfl
          try simp only [Act.put, List.setIfInBounds_toArray, List.set_cons_zero, List.set_cons_succ]
          refine wpAnyH_take (i := 18) (oi := { dst := some 31, op := _, type := _, pos := _, after := _, guard := _ }) (v := ?_) rfl (by kernel_rfl) (by kernel_rfl) (by kernel_rfl) (fun _ _ _ h => h) (Or.inl ⟨by rfl, ?_⟩) (by assumption) ?_
          rotate_left
          · intro w hSw
            try dsimp only at hSw
            go_simp
            try with_reducible rfl
          try simp only [Act.put, List.setIfInBounds_toArray, List.set_cons_zero, List.set_cons_succ]
          refine wpAnyH_ready (rs := [19]) (by kernel_rfl) (by simp) ?_
          refine AllReadyH.cons rfl (fun K hK => ?_) AllReadyH.nil
          go_simp
          refine hK.out _ _ ?_ (fun hHeld => ?_)
          · exact trivial
          clear hK K
          have HD := Lib.hid (HX.out.put HC.out HSub.out (by rw [HLe.out, rrcs_app]; exact HO2.out))
          try simp only [Act.put, List.setIfInBounds_toArray, List.set_cons_zero, List.set_cons_succ]
          refine wpAnyH_done (by kernel_rfl) ?_ _
          go_wp2_with fail
          go_end0
          exact ⟨rfl, ⟨_, _, HD.out.1, HA.out⟩, HD.out.2⟩
        · go_simp
          refine hK.out _ _ ?_ (fun hHeld => ?_)
          · exact trivial
          clear hK K
          try simp only [Act.put, List.setIfInBounds_toArray, List.set_cons_zero, List.set_cons_succ]
          refine wpAnyH_take (i := 7) (oi := { dst := some 20, op := _, type := _, pos := _, after := _, guard := _ }) (v := ?_) rfl (by kernel_rfl) (by kernel_rfl) (by kernel_rfl) (fun _ _ _ h => h) (Or.inl ⟨by rfl, ?_⟩) (by assumption) ?_
          rotate_left
          · intro w hSw
            try dsimp only at hSw
            go_simp
            try with_reducible rfl
          try simp only [Act.put, List.setIfInBounds_toArray, List.set_cons_zero, List.set_cons_succ]
          refine wpAnyH_ready (rs := [1]) (by kernel_rfl) (by simp) ?_
          refine AllReadyH.cons rfl (fun K hK => ?_) AllReadyH.nil
          go_simp
          refine hK.out _ _ ?_ (fun hHeld => ?_)
          · exact trivial
          clear hK K
          have HO := Lib.hid (rr_empty w.drew)
          have HC := Lib.hid (HC.out.alloc HC.out.size (.cells #[] 65))
          have c4 := HSt.out _ HC.out
          try simp only [Act.put, List.setIfInBounds_toArray, List.set_cons_zero, List.set_cons_succ]
          refine wpAnyH_ready (rs := [8]) (by kernel_rfl) (by simp) ?_
          refine AllReadyH.cons rfl (fun K hK => ?_) AllReadyH.nil
          refine step_app_r _ HO.out _ _ ⟨g, 0, none⟩ k cap (rrcs (L.take k)) HL1.out (HN1.out _ HC.out) HV1.out rfl rfl rfl (by simp [Act.eval, Act.put]) HB0.out HC.out.size ?_
          intro v1 w3 q1 q2
          rw [Nat.zero_add, List.nil_append] at q1
          obtain ⟨vo, vc, hv1⟩ := rr_slice q1
          subst hv1
          have HC := Lib.hid (HC.out.grown q2.out HC.out.size (fun i hi => (HO.out.lt i hi).1))
          have HO1 := Lib.hid q1
          have c4 := HSt.out _ HC.out
          clear q1 q2
          refine hK.out _ _ ?_ (fun hHeld => ?_)
          · exact trivial
          clear hK K
          try simp only [Act.put, List.setIfInBounds_toArray, List.set_cons_zero, List.set_cons_succ]
          refine wpAnyH_ready (rs := [16]) (by kernel_rfl) (by simp) ?_
          refine AllReadyH.cons rfl (fun K hK => ?_) AllReadyH.nil
          refine step_app_r _ HO1.out _ _ ⟨g, (k + 1) * 3, none⟩ (L.length - (k + 1)) (cap - (k + 1)) (rrcs (L.drop (k + 1))) HL2.out (HN2.out _ HC.out) HV2.out rfl rfl rfl (by simp [Act.eval, Act.put]) HB1.out HC.out.size ?_
          intro v2 w4 q1 q2
          obtain ⟨vo2, vc2, hv2⟩ := rr_slice q1
          subst hv2
          have HC := Lib.hid (HC.out.grown q2.out HC.out.size (fun i hi => (HO1.out.lt i hi).1))
          have HO2 := Lib.hid q1
          have c4 := HSt.out _ HC.out
          have f4 := HFr.out _ HC.out
          clear q1 q2
          refine hK.out _ _ ?_ (fun hHeld => ?_)
          · exact trivial
          clear hK K
          try simp only [Act.put, List.setIfInBounds_toArray, List.set_cons_zero, List.set_cons_succ]
          refine wpAnyH_take (i := 17) (oi := { dst := some 30, op := _, type := _, pos := _, after := _, guard := _ }) (v := ?_) rfl (by kernel_rfl) (by kernel_rfl) (by kernel_rfl) (fun _ _ _ h => h) (Or.inl ⟨by rfl, ?_⟩) (by assumption) ?_
          rotate_left
          · intro w hSw
            try dsimp only at hSw
            go_simp
            try with_reducible rfl
          try simp only [Act.put, List.setIfInBounds_toArray, List.set_cons_zero, List.set_cons_succ]
          refine wpAnyH_take (i := 18) (oi := { dst := some 31, op := _, type := _, pos := _, after := _, guard := _ }) (v := ?_) rfl (by kernel_rfl) (by kernel_rfl) (by kernel_rfl) (fun _ _ _ h => h) (Or.inl ⟨by rfl, ?_⟩) (by assumption) ?_
          rotate_left
          · intro w hSw
            try dsimp only at hSw
            go_simp
            try with_reducible rfl
          try simp only [Act.put, List.setIfInBounds_toArray, List.set_cons_zero, List.set_cons_succ]
          refine wpAnyH_ready (rs := [19]) (by kernel_rfl) (by simp) ?_
          refine AllReadyH.cons rfl (fun K hK => ?_) AllReadyH.nil
          go_simp
          refine hK.out _ _ ?_ (fun hHeld => ?_)
          · exact trivial
          clear hK K
          have HD := Lib.hid (HX.out.put HC.out HSub.out (by rw [HLe.out, rrcs_app]; exact HO2.out))
          try simp only [Act.put, List.setIfInBounds_toArray, List.set_cons_zero, List.set_cons_succ]
          refine wpAnyH_done (by kernel_rfl) ?_ _
          go_wp2_with fail
          go_end0
          exact ⟨rfl, ⟨_, _, HD.out.1, HA.out⟩, HD.out.2⟩
  · have HA := Lib.hid (show A' = L.map rrU by rw [← hA]; exact clear_none h3)
    have HI := Lib.hid h4
    clear h3 h4 h5 hA hok
    go_enter Try.func11, Try.ntmps11
    go_wp2_with fail
    refine (rmade_k S b most win lock L v _ HX.out).mono ?_
    rintro e w' ⟨rfl, rfl⟩
    go_wp2_with fail
    refine (rfind_k S b most win lock L v u (-1) _ HX.out HI.out).mono ?_
    rintro e w' ⟨rfl, rfl⟩
    go_wp2_with fail
    go_end0
    exact ⟨rfl, ⟨L, v, HX.out.mono fun i hi => .inl hi, HA.out⟩, Fo.refl _ _⟩
end Go.Proofs.Ytclecajbcmmddaa
