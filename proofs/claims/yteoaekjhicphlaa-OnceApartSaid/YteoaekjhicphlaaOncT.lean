/-
  Contract of the specification's Use. Condition: at most 256 items; identifiers of at most 1000000000 bytes.
-/
import Derived.Test.YteoaekjhicphlaaOncS
set_option maxRecDepth 100000
set_option linter.unusedVariables false
set_option linter.unusedSimpArgs false
set_option linter.unnecessarySimpa false
namespace Go.Proofs.Yteoaekjhicphlaa
open Go.RowKit Go.PlainAid

theorem set_at {L : List Itm} {u : ByteArray} {k : Nat} (hu : OlN (L.map itU)) (h : k < L.length) (hk : (itA L k).id = u) (hs : (olO (L.map itU) u).isSome = true) (t : Int) : olSet (L.map itU) u t = (L.set k ⟨u, t⟩).map itU := by
  have hp : ∀ j (hj : j < L.length), j ≠ k → (L[j]).id ≠ u := fun j hj hne e => by
    have hu2 : ((L.map itU).map Prod.fst).Pairwise (· ≠ ·) := hu
    rw [List.map_map, List.pairwise_map, List.pairwise_iff_getElem] at hu2
    rw [← hk, it_get h] at e
    rcases Nat.lt_or_ge j k with q | q
    · exact hu2 j k hj h q e
    · exact hu2 k j h hj (by omega) e.symm
  unfold olSet
  rw [if_pos hs]
  apply List.ext_getElem (by simp)
  intro j h1 h2
  have hj : j < L.length := by simpa using h1
  rw [List.getElem_map, List.getElem_map, List.getElem_map, List.getElem_set]
  by_cases e : k = j
  · subst e
    rw [if_pos rfl]
    have : (itU L[k]).1 = u := by rw [← hk, it_get h]; rfl
    rw [if_pos this, this]; rfl
  · rw [if_neg e, if_neg (by exact hp j hj fun q => e q.symm)]
theorem set_new {L : List Itm} {u : ByteArray} (h : olO (L.map itU) u = none) (t : Int) : olSet (L.map itU) u t = (L ++ [(⟨u, t⟩ : Itm)]).map itU := by
  unfold olSet
  rw [h, if_neg (by simp), List.map_append]; rfl
/-- the store of a grown slice -/
theorem RX.grow {w W1 w' : World} {lo b n cp q : Nat} {most t : Int} {L : List Itm} {v : Value} {u : ByteArray} (h : RX w lo b most L v) (hlo : lo ≤ w.heap.size) (ha : Below w.heap.size w W1) (hn : L.length = n)
    (ho : w'.ownsRow lo 57 2 (.slice (some ⟨q, 0, none⟩) (n + 1) cp) (n + 1) (itcs L ++ [.string u, .int .i64 t])) (hg : W1.grownBy w' v.ownBlock) (hq : v.ownBlock = some q ∨ w.heap.size ≤ q) :
    Hid (RX (w'.setCell ⟨b, 1, none⟩ (.slice (some ⟨q, 0, none⟩) (n + 1) cp)) lo b most (L ++ [⟨u, t⟩]) (.slice (some ⟨q, 0, none⟩) (n + 1) cp) ∧ Bo lo w (w'.setCell ⟨b, 1, none⟩ (.slice (some ⟨q, 0, none⟩) (n + 1) cp))) ∧ w'.cell? ⟨b, 1, none⟩ = some v ∧ w'.frozen? ⟨b, 1, none⟩ = false := by
  subst hn
  have hbb := h.obj.big
  have hob : w'.heap[b]? = w.heap[b]? := (hg.block b (Nat.lt_of_lt_of_le hbb ha.size) (fun e => h.ne e.symm)).trans (ha.block b hbb)
  have hne : (Value.slice (some ⟨q, 0, none⟩) (L.length + 1) cp).ownBlock ≠ some b := fun e => by
    have e : (some q : Option Nat) = some b := e
    injection e with e
    rcases hq with k | k
    · exact h.ne (by rw [k, e])
    · omega
  have hbl0 : Below lo w w' := ⟨hg.os.trans ha.os, hg.tape.trans ha.tape, hg.output.trans ha.output, Nat.le_trans ha.size hg.size, fun k hk => (hg.block k (by have := ha.size; omega) (fun e => by have := (h.own.lt k e.symm).1; omega)).trans (ha.block k (by omega))⟩
  have hbl : Bo lo w w' := ⟨hbl0, fun k c e => by
    have e1 := (Bo.of_below ha (Nat.zero_le _)).tk k c e
    have hk : some k ≠ v.ownBlock := fun q => by
      obtain ⟨ao, cap, hv, _⟩ := h.shape
      rcases h.own.2 with ⟨h2, _⟩ | ⟨g', cap', cur, h2, _, h4, _⟩
      · rw [h2] at q; cases q
      · rw [h2] at q
        have q : some k = some g' := q
        injection q with q
        rw [← q, e] at h4
        injection h4 with h4
        injection h4 with _ h4
        exact absurd h4 (by decide)
    exact (hg.block k (KbC.big e1) hk).trans e1⟩
  have ho2 : w'.ownsRow lo 57 2 (.slice (some ⟨q, 0, none⟩) (L.length + 1) cp) (L ++ [(⟨u, t⟩ : Itm)]).length (itcs (L ++ [(⟨u, t⟩ : Itm)])) := by
    rw [List.length_append, itcs_app]; exact ho
  have hk : KbC w' b (rrO most v) := hob.trans h.obj
  exact ⟨Lib.hid (h.put hob hbl ho2 hne), by unfold rrO at hk; exact hk.cell rfl, by unfold rrO at hk; exact hk.frz⟩
/-- an append behind a purge, or at once: the object's state there -/
theorem RL.len {w : World} {lo b : Nat} {most : Int} {L : List Itm} {v : Value} (h : RX w lo b most L v) : RL w lo b most (L.map itU) := ⟨L, v, h, rfl⟩
set_option maxHeartbeats 8000000 in
theorem ruse_k (lo b : Nat) (most : Int) (A A' : Ol) (u : ByteArray) (x now t n r : Int) (w : World) (h : RL w lo b most A) (hlo : lo ≤ w.heap.size) (ok : OlOk most A) (m0 : 1 ≤ most) (m1 : most ≤ 256) (hu : u.size ≤ 1000000000) (hx : limI x = t) (hn : limI now = n) (hr : useP most A u t n = (r, A')) :
    Calls Try.prog 14 #[.pointer (some ⟨b, 0, none⟩), .string u, .int .i64 x, .int .i64 now] w fun e w' => e = .returned (.int .i64 r) ∧ RL w' lo b most A' ∧ Bo lo w w' := by
  obtain ⟨L, v, hRX, rfl⟩ := h
  have HX := Lib.hid hRX
  have HXT := Lib.hid hx
  have HNW := Lib.hid hn
  have HOK := Lib.hid ok
  have hlen := ok.len
  rw [List.length_map] at hlen
  have hnb := limI_bd now
  rw [hn] at hnb
  have hm0 : (most == 0) = false := beq_eq_false_iff_ne.2 (by omega)
  obtain ⟨c0, c1⟩ := hRX.flat
  have f1 := hRX.frz 1
  obtain ⟨ao, cap, hv, s1, s2, s3⟩ := hRX.shape
  unfold useP at hr
  clear hRX hx hn ok
  cases hw : wordB u with
  | false =>
    rw [if_pos hw] at hr
    injection hr with h1 h2
    subst h1 h2
    have HW := Lib.hid hw
    clear hw hnb s3 hv c1 f1 hlen
    go_enter Try.func14, Try.ntmps14
    go_wp2_with fail
    refine (rlim_k x t _ HXT.out).mono ?_
    rintro e w' ⟨rfl, rfl⟩
    go_wp2_with fail
    refine (rlim_k now n _ HNW.out).mono ?_
    rintro e w' ⟨rfl, rfl⟩
    go_wp2_with fail
    refine (rword_k u _ _ hu HW.out).mono ?_
    rintro e w' ⟨rfl, rfl⟩
    go_wp2_with fail
    go_ret
    exact ⟨rfl, RL.len HX.out, Bo.refl _ _⟩
  | true =>
    rw [if_neg (by rw [hw]; decide)] at hr
    have HW := Lib.hid hw
    clear hw
    by_cases c2 : t ≤ n
    · rw [if_pos c2] at hr
      injection hr with h1 h2
      subst h1 h2
      clear hnb s3 hv c1 f1 hlen
      go_enter Try.func14, Try.ntmps14
      go_wp2_with fail
      refine (rlim_k x t _ HXT.out).mono ?_
      rintro e w' ⟨rfl, rfl⟩
      go_wp2_with fail
      refine (rlim_k now n _ HNW.out).mono ?_
      rintro e w' ⟨rfl, rfl⟩
      go_wp2_with fail
      refine (rword_k u _ _ hu HW.out).mono ?_
      rintro e w' ⟨rfl, rfl⟩
      go_wp2_with fail
      go_ret
      exact ⟨rfl, RL.len HX.out, Bo.refl _ _⟩
    · rw [if_neg c2] at hr
      rcases find_cases L u with ⟨k, h1, h2, h3, h4, h5⟩ | ⟨h4, h5⟩
      · have HA := Lib.hid (rat_k lo b most L v u _ w HX.out h4)
        rw [olO_at h5] at hr
        have hsome : (olO (L.map itU) u).isSome = true := by rw [h5]; rfl
        rw [if_pos hsome] at hr
        have HSA := Lib.hid (set_at HOK.out.nod h1 h2 hsome t)
        obtain ⟨g, rfl, hlg, hgb, hgl, hit, hfz⟩ := s3 (by omega)
        subst hv
        have d1 := (hit.at_ h1).c1
        rw [Nat.zero_add] at d1
        have HSU := Lib.hid (HX.out.setU h1 t)
        rw [h2] at HSU
        obtain ⟨z, hz⟩ : ∃ z, (itA L k).un = z := ⟨_, rfl⟩
        rw [hz] at d1 hr
        have f2 := hfz (k * 2 + 1)
        have i1 : (k : Int) < (L.length : Int) := by omega
        have i2 : decide ((0 : Int) ≤ (k : Int)) = true := decide_eq_true (by omega)
        have i3 : ¬ (k : Int) < 0 := by omega
        unfold maxLen at s2
        clear h2 h3 h4 h5 hz hit hfz s3 hsome hnb hlen
        by_cases c3 : n < z
        · rw [if_pos c3] at hr
          injection hr with h1 h2
          subst h1 h2
          go_enter Try.func14, Try.ntmps14
          go_wp2_with fail
          refine (rlim_k x t _ HXT.out).mono ?_
          rintro e w' ⟨rfl, rfl⟩
          go_wp2_with fail
          refine (rlim_k now n _ HNW.out).mono ?_
          rintro e w' ⟨rfl, rfl⟩
          go_wp2_with fail
          refine (rword_k u _ _ hu HW.out).mono ?_
          rintro e w' ⟨rfl, rfl⟩
          go_wp2_with fail
          refine HA.out.mono ?_
          rintro e w' ⟨rfl, rfl⟩
          go_wp2_with fail
          go_ret
          exact ⟨rfl, RL.len HX.out, Bo.refl _ _⟩
        · rw [if_neg c3] at hr
          injection hr with h1 h2
          subst h1 h2
          go_enter Try.func14, Try.ntmps14
          go_wp2_with fail
          refine (rlim_k x t _ HXT.out).mono ?_
          rintro e w' ⟨rfl, rfl⟩
          go_wp2_with fail
          refine (rlim_k now n _ HNW.out).mono ?_
          rintro e w' ⟨rfl, rfl⟩
          go_wp2_with fail
          refine (rword_k u _ _ hu HW.out).mono ?_
          rintro e w' ⟨rfl, rfl⟩
          go_wp2_with fail
          refine HA.out.mono ?_
          rintro e w' ⟨rfl, rfl⟩
          go_wp2_with fail
          go_ret
          exact ⟨rfl, ⟨_, _, HSU.out.1, HSA.out⟩, HSU.out.2⟩
      · have HA := Lib.hid (rat_k lo b most L v u _ w HX.out h4)
        have hat : atA (L.map itU) u = 0 := by unfold atA; rw [h5]; rfl
        rw [hat, if_neg (by omega), h5, if_neg (by simp), List.length_map] at hr
        have hlr : L.length ≤ 256 := by omega
        have h5p : olO (purA (L.map itU) n) u = none := by rw [olO_pur HOK.out.nod, h5]; rfl
        have i2 : decide ((0 : Int) ≤ (-1 : Int)) = false := by decide
        by_cases c5 : (L.length : Int) < most
        · rw [if_pos c5] at hr
          injection hr with h1 h2
          rw [set_new h5] at h2
          subst h1 h2
          have d5 : decide (most ≤ (L.length : Int)) = false := decide_eq_false (by omega)
          clear hat h4 h5 h5p hnb hlen s3 c5
          subst hv
          go_enter Try.func14, Try.ntmps14
          go_wp2_with fail
          refine (rlim_k x t _ HXT.out).mono ?_
          rintro e w' ⟨rfl, rfl⟩
          go_wp2_with fail
          refine (rlim_k now n _ HNW.out).mono ?_
          rintro e w' ⟨rfl, rfl⟩
          go_wp2_with fail
          refine (rword_k u _ _ hu HW.out).mono ?_
          rintro e w' ⟨rfl, rfl⟩
          go_wp2_with fail
          refine HA.out.mono ?_
          rintro e w' ⟨rfl, rfl⟩
          go_wp2_with fail
          have HX := Lib.hid (HX.out.step (Below.refl w.heap.size w).drew)
          have HB := Lib.hid (Bo.of_below (Below.refl w.heap.size w).drew hlo)
          refine wp_region_held_drew (S := fun V => V.cell? ⟨b, 0, none⟩ = some (.int .i64 most) ∧ V.cell? ⟨b, 1, none⟩ = some (.slice ao L.length cap)) (by kernel_rfl) (And.intro c0 c1) (fun hS => ?_)
          refine wpAnyH_take (i := 0) (oi := { dst := some 58, op := _, type := _, pos := _, after := _, guard := _ }) (v := ?_) rfl (by kernel_rfl) (by kernel_rfl) (by kernel_rfl) (fun _ _ _ h => h) (Or.inl ⟨by rfl, ?_⟩) (by assumption) ?_
          rotate_left
          · intro w hSw
            try dsimp only at hSw
            go_simp
            try with_reducible rfl
          try simp only [Act.put, List.setIfInBounds_toArray, List.set_cons_zero, List.set_cons_succ]
          refine wpAnyH_take (i := 1) (oi := { dst := some 59, op := _, type := _, pos := _, after := _, guard := _ }) (v := ?_) rfl (by kernel_rfl) (by kernel_rfl) (by kernel_rfl) (fun _ _ _ h => h) (Or.inl ⟨by rfl, ?_⟩) (by assumption) ?_
          rotate_left
          · intro w hSw
            try dsimp only at hSw
            go_simp
            try with_reducible rfl
          try simp only [Act.put, List.setIfInBounds_toArray, List.set_cons_zero, List.set_cons_succ]
          refine wpAnyH_take (i := 2) (oi := { dst := some 60, op := _, type := _, pos := _, after := _, guard := _ }) (v := ?_) rfl (by kernel_rfl) (by kernel_rfl) (by kernel_rfl) (fun _ _ _ h => h) (Or.inl ⟨by rfl, ?_⟩) (by assumption) ?_
          rotate_left
          · intro w hSw
            try dsimp only at hSw
            go_simp
            try with_reducible rfl
          try simp only [Act.put, List.setIfInBounds_toArray, List.set_cons_zero, List.set_cons_succ]
          refine wpAnyH_take (i := 3) (oi := { dst := some 61, op := _, type := _, pos := _, after := _, guard := _ }) (v := ?_) rfl (by kernel_rfl) (by kernel_rfl) (by kernel_rfl) (fun _ _ _ h => h) (Or.inl ⟨by rfl, ?_⟩) (by assumption) ?_
          rotate_left
          · intro w hSw
            try dsimp only at hSw
            go_simp
            try with_reducible rfl
          try simp only [Act.put, List.setIfInBounds_toArray, List.set_cons_zero, List.set_cons_succ]
          refine wpAnyH_take (i := 4) (oi := { dst := some 62, op := _, type := _, pos := _, after := _, guard := _ }) (v := ?_) rfl (by kernel_rfl) (by kernel_rfl) (by kernel_rfl) (fun _ _ _ h => h) (Or.inl ⟨by rfl, ?_⟩) (by assumption) ?_
          rotate_left
          · intro w hSw
            try dsimp only at hSw
            go_simp
            try with_reducible rfl
          try simp only [Act.put, List.setIfInBounds_toArray, List.set_cons_zero, List.set_cons_succ]
          refine wpAnyH_take (i := 5) (oi := { dst := some 63, op := _, type := _, pos := _, after := _, guard := _ }) (v := ?_) rfl (by kernel_rfl) (by kernel_rfl) (by kernel_rfl) (fun _ _ _ h => h) (Or.inl ⟨by rfl, ?_⟩) (by assumption) ?_
          rotate_left
          · intro w hSw
            try dsimp only at hSw
            go_simp
            try with_reducible rfl
          try simp only [Act.put, List.setIfInBounds_toArray, List.set_cons_zero, List.set_cons_succ]
          refine wpAnyH_take (i := 6) (oi := { dst := some 64, op := _, type := _, pos := _, after := _, guard := _ }) (v := ?_) rfl (by kernel_rfl) (by kernel_rfl) (by kernel_rfl) (fun _ _ _ h => h) (Or.inl ⟨by rfl, ?_⟩) (by assumption) ?_
          rotate_left
          · intro w hSw
            try dsimp only at hSw
            go_simp
            try with_reducible rfl
          try simp only [Act.put, List.setIfInBounds_toArray, List.set_cons_zero, List.set_cons_succ]
          refine wpAnyH_take (i := 7) (oi := { dst := some 65, op := _, type := _, pos := _, after := _, guard := _ }) (v := ?_) rfl (by kernel_rfl) (by kernel_rfl) (by kernel_rfl) (fun _ _ _ h => h) (Or.inl ⟨by rfl, ?_⟩) (by assumption) ?_
          rotate_left
          · intro w hSw
            try dsimp only at hSw
            go_simp
            try with_reducible rfl
          try simp only [Act.put, List.setIfInBounds_toArray, List.set_cons_zero, List.set_cons_succ]
          refine wpAnyH_take (i := 8) (oi := { dst := some 66, op := _, type := _, pos := _, after := _, guard := _ }) (v := ?_) rfl (by kernel_rfl) (by kernel_rfl) (by kernel_rfl) (fun _ _ _ h => h) (Or.inl ⟨by rfl, ?_⟩) (by assumption) ?_
          rotate_left
          · intro w hSw
            try dsimp only at hSw
            go_simp
            try with_reducible rfl
          try simp only [Act.put, List.setIfInBounds_toArray, List.set_cons_zero, List.set_cons_succ]
          refine wpAnyH_take (i := 9) (oi := { dst := some 67, op := _, type := _, pos := _, after := _, guard := _ }) (v := ?_) rfl (by kernel_rfl) (by kernel_rfl) (by kernel_rfl) (fun _ _ _ h => h) (Or.inl ⟨by rfl, ?_⟩) (by assumption) ?_
          rotate_left
          · intro w hSw
            try dsimp only at hSw
            go_simp
            try with_reducible rfl
          try simp only [Act.put, List.setIfInBounds_toArray, List.set_cons_zero, List.set_cons_succ]
          refine wpAnyH_done (by kernel_rfl) ?_ _
          clear c0 c1 f1
          obtain ⟨c0, c1⟩ := HX.out.flat
          have HX := Lib.hid (HX.out.step (Below.refl w.drew.heap.size w.drew).drew)
          have HB := Lib.hid (HB.out.trans (Bo.of_below (Below.refl w.drew.heap.size w.drew).drew hlo))
          go_wp2_with fail
          refine wp_region_held_drew (S := fun V => V.cell? ⟨b, 0, none⟩ = some (.int .i64 most) ∧ V.cell? ⟨b, 1, none⟩ = some (.slice ao L.length cap)) (by kernel_rfl) (And.intro c0 c1) (fun hS => ?_)
          refine wpAnyH_take (i := 0) (oi := { dst := some 71, op := _, type := _, pos := _, after := _, guard := _ }) (v := ?_) rfl (by kernel_rfl) (by kernel_rfl) (by kernel_rfl) (fun _ _ _ h => h) (Or.inl ⟨by rfl, ?_⟩) (by assumption) ?_
          rotate_left
          · intro w hSw
            try dsimp only at hSw
            go_simp
            try with_reducible rfl
          try simp only [Act.put, List.setIfInBounds_toArray, List.set_cons_zero, List.set_cons_succ]
          refine wpAnyH_take (i := 1) (oi := { dst := some 72, op := _, type := _, pos := _, after := _, guard := _ }) (v := ?_) rfl (by kernel_rfl) (by kernel_rfl) (by kernel_rfl) (fun _ _ _ h => h) (Or.inl ⟨by rfl, ?_⟩) (by assumption) ?_
          rotate_left
          · intro w hSw
            try dsimp only at hSw
            go_simp
            try with_reducible rfl
          try simp only [Act.put, List.setIfInBounds_toArray, List.set_cons_zero, List.set_cons_succ]
          refine wpAnyH_take (i := 2) (oi := { dst := some 73, op := _, type := _, pos := _, after := _, guard := _ }) (v := ?_) rfl (by kernel_rfl) (by kernel_rfl) (by kernel_rfl) (fun _ _ _ h => h) (Or.inl ⟨by rfl, ?_⟩) (by assumption) ?_
          rotate_left
          · intro w hSw
            try dsimp only at hSw
            go_simp
            try with_reducible rfl
          try simp only [Act.put, List.setIfInBounds_toArray, List.set_cons_zero, List.set_cons_succ]
          refine wpAnyH_take (i := 3) (oi := { dst := some 74, op := _, type := _, pos := _, after := _, guard := _ }) (v := ?_) rfl (by kernel_rfl) (by kernel_rfl) (by kernel_rfl) (fun _ _ _ h => h) (Or.inl ⟨by rfl, ?_⟩) (by assumption) ?_
          rotate_left
          · intro w hSw
            try dsimp only at hSw
            go_simp
            try with_reducible rfl
          try simp only [Act.put, List.setIfInBounds_toArray, List.set_cons_zero, List.set_cons_succ]
          refine wpAnyH_take (i := 4) (oi := { dst := some 75, op := _, type := _, pos := _, after := _, guard := _ }) (v := ?_) rfl (by kernel_rfl) (by kernel_rfl) (by kernel_rfl) (fun _ _ _ h => h) (Or.inl ⟨by rfl, ?_⟩) (by assumption) ?_
          rotate_left
          · intro w hSw
            try dsimp only at hSw
            go_simp
            try with_reducible rfl
          try simp only [Act.put, List.setIfInBounds_toArray, List.set_cons_zero, List.set_cons_succ]
          refine wpAnyH_take (i := 5) (oi := { dst := some 76, op := _, type := _, pos := _, after := _, guard := _ }) (v := ?_) rfl (by kernel_rfl) (by kernel_rfl) (by kernel_rfl) (fun _ _ _ h => h) (Or.inl ⟨by rfl, ?_⟩) (by assumption) ?_
          rotate_left
          · intro w hSw
            try dsimp only at hSw
            go_simp
            try with_reducible rfl
          try simp only [Act.put, List.setIfInBounds_toArray, List.set_cons_zero, List.set_cons_succ]
          refine wpAnyH_take (i := 6) (oi := { dst := some 77, op := _, type := _, pos := _, after := _, guard := _ }) (v := ?_) rfl (by kernel_rfl) (by kernel_rfl) (by kernel_rfl) (fun _ _ _ h => h) (Or.inl ⟨by rfl, ?_⟩) (by assumption) ?_
          rotate_left
          · intro w hSw
            try dsimp only at hSw
            go_simp
            try with_reducible rfl
          try simp only [Act.put, List.setIfInBounds_toArray, List.set_cons_zero, List.set_cons_succ]
          refine wpAnyH_take (i := 7) (oi := { dst := some 78, op := _, type := _, pos := _, after := _, guard := _ }) (v := ?_) rfl (by kernel_rfl) (by kernel_rfl) (by kernel_rfl) (fun _ _ _ h => h) (Or.inl ⟨by rfl, ?_⟩) (by assumption) ?_
          rotate_left
          · intro w hSw
            try dsimp only at hSw
            go_simp
            try with_reducible rfl
          try simp only [Act.put, List.setIfInBounds_toArray, List.set_cons_zero, List.set_cons_succ]
          refine wpAnyH_take (i := 8) (oi := { dst := some 79, op := _, type := _, pos := _, after := _, guard := _ }) (v := ?_) rfl (by kernel_rfl) (by kernel_rfl) (by kernel_rfl) (fun _ _ _ h => h) (Or.inl ⟨by rfl, ?_⟩) (by assumption) ?_
          rotate_left
          · intro w hSw
            try dsimp only at hSw
            go_simp
            try with_reducible rfl
          try simp only [Act.put, List.setIfInBounds_toArray, List.set_cons_zero, List.set_cons_succ]
          refine wpAnyH_take (i := 9) (oi := { dst := some 80, op := _, type := _, pos := _, after := _, guard := _ }) (v := ?_) rfl (by kernel_rfl) (by kernel_rfl) (by kernel_rfl) (fun _ _ _ h => h) (Or.inl ⟨by rfl, ?_⟩) (by assumption) ?_
          rotate_left
          · intro w hSw
            try dsimp only at hSw
            go_simp
            try with_reducible rfl
          try simp only [Act.put, List.setIfInBounds_toArray, List.set_cons_zero, List.set_cons_succ]
          refine wpAnyH_done (by kernel_rfl) ?_ _
          clear c0 c1
          obtain ⟨c0, c1⟩ := HX.out.flat
          have hlo2 : lo ≤ w.drew.drew.heap.size := hlo
          go_wp2_with (at_builtin; go_loud (refine push_it w.drew.drew HX.out.own (.tmp 85) (.tmp 89) u t ?_ ?_ ?_ ?_ ?_ ?_ ?_ ?_; exact rfl; exact rfl; exact rfl; exact rfl; omega; exact hlo2; exact rfl; intro q cp w5 ho5 hg5 hq5; obtain ⟨HG, c1, f1⟩ := HX.out.grow hlo2 (box_below _ _) rfl ho5 hg5 hq5; clear ho5 hg5 hq5))
          go_wp2_with fail
          go_ret
          exact ⟨rfl, RL.len HG.out.1, HB.out.trans HG.out.2⟩
        · rw [if_neg c5] at hr
          have d5 : decide (most ≤ (L.length : Int)) = true := decide_eq_true (by omega)
          obtain ⟨B, hB⟩ : ∃ B, purA (L.map itU) n = B := ⟨_, rfl⟩
          obtain ⟨d, hd⟩ : ∃ d : Int, ((L.map itU).length : Int) - (B.length : Int) = d := ⟨_, rfl⟩
          have HP := Lib.hid (fun V (hV : RL V lo b most (L.map itU)) (hl : lo ≤ V.heap.size) => rpurge_k lo b most (L.map itU) B n n d V hV hl (by rw [List.length_map]; exact hlr) (by rw [← HNW.out]; exact limI_lim now) hB hd)
          rw [hB] at hr h5p
          have hBl : B.length ≤ 256 := by
            have := purA_le (L.map itU) n
            rw [List.length_map, hB] at this; omega
          clear hat h4 h5 hnb hlen s3 c5 hB hd
          subst hv
          by_cases c6 : (B.length : Int) < most
          · rw [if_pos c6] at hr
            injection hr with h1 h2
            have d6 : decide (most ≤ (B.length : Int)) = false := decide_eq_false (by omega)
            have HA' := Lib.hid h2
            have H5p := Lib.hid h5p
            subst h1
            clear c6 h2 h5p
            go_enter Try.func14, Try.ntmps14
            go_wp2_with fail
            refine (rlim_k x t _ HXT.out).mono ?_
            rintro e w' ⟨rfl, rfl⟩
            go_wp2_with fail
            refine (rlim_k now n _ HNW.out).mono ?_
            rintro e w' ⟨rfl, rfl⟩
            go_wp2_with fail
            refine (rword_k u _ _ hu HW.out).mono ?_
            rintro e w' ⟨rfl, rfl⟩
            go_wp2_with fail
            refine HA.out.mono ?_
            rintro e w' ⟨rfl, rfl⟩
            go_wp2_with fail
            have HX1 := Lib.hid (HX.out.step (Below.refl w.heap.size w).drew)
            have HB1 := Lib.hid (Bo.of_below (Below.refl w.heap.size w).drew hlo)
            refine wp_region_held_drew (S := fun V => V.cell? ⟨b, 0, none⟩ = some (.int .i64 most) ∧ V.cell? ⟨b, 1, none⟩ = some (.slice ao L.length cap)) (by kernel_rfl) (And.intro c0 c1) (fun hS => ?_)
            refine wpAnyH_take (i := 0) (oi := { dst := some 58, op := _, type := _, pos := _, after := _, guard := _ }) (v := ?_) rfl (by kernel_rfl) (by kernel_rfl) (by kernel_rfl) (fun _ _ _ h => h) (Or.inl ⟨by rfl, ?_⟩) (by assumption) ?_
            rotate_left
            · intro w hSw
              try dsimp only at hSw
              go_simp
              try with_reducible rfl
            try simp only [Act.put, List.setIfInBounds_toArray, List.set_cons_zero, List.set_cons_succ]
            refine wpAnyH_take (i := 1) (oi := { dst := some 59, op := _, type := _, pos := _, after := _, guard := _ }) (v := ?_) rfl (by kernel_rfl) (by kernel_rfl) (by kernel_rfl) (fun _ _ _ h => h) (Or.inl ⟨by rfl, ?_⟩) (by assumption) ?_
            rotate_left
            · intro w hSw
              try dsimp only at hSw
              go_simp
              try with_reducible rfl
            try simp only [Act.put, List.setIfInBounds_toArray, List.set_cons_zero, List.set_cons_succ]
            refine wpAnyH_take (i := 2) (oi := { dst := some 60, op := _, type := _, pos := _, after := _, guard := _ }) (v := ?_) rfl (by kernel_rfl) (by kernel_rfl) (by kernel_rfl) (fun _ _ _ h => h) (Or.inl ⟨by rfl, ?_⟩) (by assumption) ?_
            rotate_left
            · intro w hSw
              try dsimp only at hSw
              go_simp
              try with_reducible rfl
            try simp only [Act.put, List.setIfInBounds_toArray, List.set_cons_zero, List.set_cons_succ]
            refine wpAnyH_take (i := 3) (oi := { dst := some 61, op := _, type := _, pos := _, after := _, guard := _ }) (v := ?_) rfl (by kernel_rfl) (by kernel_rfl) (by kernel_rfl) (fun _ _ _ h => h) (Or.inl ⟨by rfl, ?_⟩) (by assumption) ?_
            rotate_left
            · intro w hSw
              try dsimp only at hSw
              go_simp
              try with_reducible rfl
            try simp only [Act.put, List.setIfInBounds_toArray, List.set_cons_zero, List.set_cons_succ]
            refine wpAnyH_take (i := 4) (oi := { dst := some 62, op := _, type := _, pos := _, after := _, guard := _ }) (v := ?_) rfl (by kernel_rfl) (by kernel_rfl) (by kernel_rfl) (fun _ _ _ h => h) (Or.inl ⟨by rfl, ?_⟩) (by assumption) ?_
            rotate_left
            · intro w hSw
              try dsimp only at hSw
              go_simp
              try with_reducible rfl
            try simp only [Act.put, List.setIfInBounds_toArray, List.set_cons_zero, List.set_cons_succ]
            refine wpAnyH_take (i := 5) (oi := { dst := some 63, op := _, type := _, pos := _, after := _, guard := _ }) (v := ?_) rfl (by kernel_rfl) (by kernel_rfl) (by kernel_rfl) (fun _ _ _ h => h) (Or.inl ⟨by rfl, ?_⟩) (by assumption) ?_
            rotate_left
            · intro w hSw
              try dsimp only at hSw
              go_simp
              try with_reducible rfl
            try simp only [Act.put, List.setIfInBounds_toArray, List.set_cons_zero, List.set_cons_succ]
            refine wpAnyH_take (i := 6) (oi := { dst := some 64, op := _, type := _, pos := _, after := _, guard := _ }) (v := ?_) rfl (by kernel_rfl) (by kernel_rfl) (by kernel_rfl) (fun _ _ _ h => h) (Or.inl ⟨by rfl, ?_⟩) (by assumption) ?_
            rotate_left
            · intro w hSw
              try dsimp only at hSw
              go_simp
              try with_reducible rfl
            try simp only [Act.put, List.setIfInBounds_toArray, List.set_cons_zero, List.set_cons_succ]
            refine wpAnyH_take (i := 7) (oi := { dst := some 65, op := _, type := _, pos := _, after := _, guard := _ }) (v := ?_) rfl (by kernel_rfl) (by kernel_rfl) (by kernel_rfl) (fun _ _ _ h => h) (Or.inl ⟨by rfl, ?_⟩) (by assumption) ?_
            rotate_left
            · intro w hSw
              try dsimp only at hSw
              go_simp
              try with_reducible rfl
            try simp only [Act.put, List.setIfInBounds_toArray, List.set_cons_zero, List.set_cons_succ]
            refine wpAnyH_take (i := 8) (oi := { dst := some 66, op := _, type := _, pos := _, after := _, guard := _ }) (v := ?_) rfl (by kernel_rfl) (by kernel_rfl) (by kernel_rfl) (fun _ _ _ h => h) (Or.inl ⟨by rfl, ?_⟩) (by assumption) ?_
            rotate_left
            · intro w hSw
              try dsimp only at hSw
              go_simp
              try with_reducible rfl
            try simp only [Act.put, List.setIfInBounds_toArray, List.set_cons_zero, List.set_cons_succ]
            refine wpAnyH_take (i := 9) (oi := { dst := some 67, op := _, type := _, pos := _, after := _, guard := _ }) (v := ?_) rfl (by kernel_rfl) (by kernel_rfl) (by kernel_rfl) (fun _ _ _ h => h) (Or.inl ⟨by rfl, ?_⟩) (by assumption) ?_
            rotate_left
            · intro w hSw
              try dsimp only at hSw
              go_simp
              try with_reducible rfl
            try simp only [Act.put, List.setIfInBounds_toArray, List.set_cons_zero, List.set_cons_succ]
            refine wpAnyH_done (by kernel_rfl) ?_ _
            clear c0 c1 f1
            go_wp2_with fail
            refine (HP.out _ (RL.len HX1.out) hlo).mono ?_
            rintro e w2 ⟨rfl, ⟨M, vM, hM, hMB⟩, hbM⟩
            have HM := Lib.hid hMB
            have hl2 : M.length = B.length := by rw [hMB, List.length_map]
            have hsz := hbM.bl.size
            have hlo2 : lo ≤ w2.heap.size := Nat.le_trans hlo hsz
            have HB := Lib.hid ((HB1.out.trans hbM).trans (Bo.of_below (Below.refl w2.heap.size w2).drew hlo2))
            obtain ⟨c0, c1⟩ := hM.flat
            obtain ⟨ao, cap, rfl, s1, s2, s3⟩ := hM.shape
            have HX := Lib.hid (hM.step (Below.refl w2.heap.size w2).drew)
            have hlr : M.length ≤ 256 := by omega
            have d6' := d6
            rw [← hl2] at d6'
            clear d6 hMB hbM s3 hM hsz HX1 HB1 hl2 hBl
            go_wp2_with fail
            clear d5
            refine wp_region_held_drew (S := fun V => V.cell? ⟨b, 0, none⟩ = some (.int .i64 most) ∧ V.cell? ⟨b, 1, none⟩ = some (.slice ao M.length cap)) (by kernel_rfl) (And.intro c0 c1) (fun hS => ?_)
            refine wpAnyH_take (i := 0) (oi := { dst := some 71, op := _, type := _, pos := _, after := _, guard := _ }) (v := ?_) rfl (by kernel_rfl) (by kernel_rfl) (by kernel_rfl) (fun _ _ _ h => h) (Or.inl ⟨by rfl, ?_⟩) (by assumption) ?_
            rotate_left
            · intro w hSw
              try dsimp only at hSw
              go_simp
              try with_reducible rfl
            try simp only [Act.put, List.setIfInBounds_toArray, List.set_cons_zero, List.set_cons_succ]
            refine wpAnyH_take (i := 1) (oi := { dst := some 72, op := _, type := _, pos := _, after := _, guard := _ }) (v := ?_) rfl (by kernel_rfl) (by kernel_rfl) (by kernel_rfl) (fun _ _ _ h => h) (Or.inl ⟨by rfl, ?_⟩) (by assumption) ?_
            rotate_left
            · intro w hSw
              try dsimp only at hSw
              go_simp
              try with_reducible rfl
            try simp only [Act.put, List.setIfInBounds_toArray, List.set_cons_zero, List.set_cons_succ]
            refine wpAnyH_take (i := 2) (oi := { dst := some 73, op := _, type := _, pos := _, after := _, guard := _ }) (v := ?_) rfl (by kernel_rfl) (by kernel_rfl) (by kernel_rfl) (fun _ _ _ h => h) (Or.inl ⟨by rfl, ?_⟩) (by assumption) ?_
            rotate_left
            · intro w hSw
              try dsimp only at hSw
              go_simp
              try with_reducible rfl
            try simp only [Act.put, List.setIfInBounds_toArray, List.set_cons_zero, List.set_cons_succ]
            refine wpAnyH_take (i := 3) (oi := { dst := some 74, op := _, type := _, pos := _, after := _, guard := _ }) (v := ?_) rfl (by kernel_rfl) (by kernel_rfl) (by kernel_rfl) (fun _ _ _ h => h) (Or.inl ⟨by rfl, ?_⟩) (by assumption) ?_
            rotate_left
            · intro w hSw
              try dsimp only at hSw
              go_simp
              try with_reducible rfl
            try simp only [Act.put, List.setIfInBounds_toArray, List.set_cons_zero, List.set_cons_succ]
            refine wpAnyH_take (i := 4) (oi := { dst := some 75, op := _, type := _, pos := _, after := _, guard := _ }) (v := ?_) rfl (by kernel_rfl) (by kernel_rfl) (by kernel_rfl) (fun _ _ _ h => h) (Or.inl ⟨by rfl, ?_⟩) (by assumption) ?_
            rotate_left
            · intro w hSw
              try dsimp only at hSw
              go_simp
              try with_reducible rfl
            try simp only [Act.put, List.setIfInBounds_toArray, List.set_cons_zero, List.set_cons_succ]
            refine wpAnyH_take (i := 5) (oi := { dst := some 76, op := _, type := _, pos := _, after := _, guard := _ }) (v := ?_) rfl (by kernel_rfl) (by kernel_rfl) (by kernel_rfl) (fun _ _ _ h => h) (Or.inl ⟨by rfl, ?_⟩) (by assumption) ?_
            rotate_left
            · intro w hSw
              try dsimp only at hSw
              go_simp
              try with_reducible rfl
            try simp only [Act.put, List.setIfInBounds_toArray, List.set_cons_zero, List.set_cons_succ]
            refine wpAnyH_take (i := 6) (oi := { dst := some 77, op := _, type := _, pos := _, after := _, guard := _ }) (v := ?_) rfl (by kernel_rfl) (by kernel_rfl) (by kernel_rfl) (fun _ _ _ h => h) (Or.inl ⟨by rfl, ?_⟩) (by assumption) ?_
            rotate_left
            · intro w hSw
              try dsimp only at hSw
              go_simp
              try with_reducible rfl
            try simp only [Act.put, List.setIfInBounds_toArray, List.set_cons_zero, List.set_cons_succ]
            refine wpAnyH_take (i := 7) (oi := { dst := some 78, op := _, type := _, pos := _, after := _, guard := _ }) (v := ?_) rfl (by kernel_rfl) (by kernel_rfl) (by kernel_rfl) (fun _ _ _ h => h) (Or.inl ⟨by rfl, ?_⟩) (by assumption) ?_
            rotate_left
            · intro w hSw
              try dsimp only at hSw
              go_simp
              try with_reducible rfl
            try simp only [Act.put, List.setIfInBounds_toArray, List.set_cons_zero, List.set_cons_succ]
            refine wpAnyH_take (i := 8) (oi := { dst := some 79, op := _, type := _, pos := _, after := _, guard := _ }) (v := ?_) rfl (by kernel_rfl) (by kernel_rfl) (by kernel_rfl) (fun _ _ _ h => h) (Or.inl ⟨by rfl, ?_⟩) (by assumption) ?_
            rotate_left
            · intro w hSw
              try dsimp only at hSw
              go_simp
              try with_reducible rfl
            try simp only [Act.put, List.setIfInBounds_toArray, List.set_cons_zero, List.set_cons_succ]
            refine wpAnyH_take (i := 9) (oi := { dst := some 80, op := _, type := _, pos := _, after := _, guard := _ }) (v := ?_) rfl (by kernel_rfl) (by kernel_rfl) (by kernel_rfl) (fun _ _ _ h => h) (Or.inl ⟨by rfl, ?_⟩) (by assumption) ?_
            rotate_left
            · intro w hSw
              try dsimp only at hSw
              go_simp
              try with_reducible rfl
            try simp only [Act.put, List.setIfInBounds_toArray, List.set_cons_zero, List.set_cons_succ]
            refine wpAnyH_done (by kernel_rfl) ?_ _
            clear c0 c1
            obtain ⟨c0, c1⟩ := HX.out.flat
            go_wp2_with (at_builtin; go_loud (refine push_it w2.drew HX.out.own (.tmp 85) (.tmp 89) u t ?_ ?_ ?_ ?_ ?_ ?_ ?_ ?_; exact rfl; exact rfl; exact rfl; exact rfl; omega; exact hlo2; exact rfl; intro q cp w5 ho5 hg5 hq5; obtain ⟨HG, c1, f1⟩ := HX.out.grow hlo2 (box_below _ _) rfl ho5 hg5 hq5; clear ho5 hg5 hq5))
            go_wp2_with fail
            go_ret
            refine ⟨rfl, ⟨_, _, HG.out.1, ?_⟩, HB.out.trans HG.out.2⟩
            rw [← HA'.out, HM.out, set_new (by rw [← HM.out]; exact H5p.out)]
          · rw [if_neg c6] at hr
            injection hr with h1 h2
            subst h1 h2
            have d6 : decide (most ≤ (B.length : Int)) = true := decide_eq_true (by omega)
            clear c6 h5p
            go_enter Try.func14, Try.ntmps14
            go_wp2_with fail
            refine (rlim_k x t _ HXT.out).mono ?_
            rintro e w' ⟨rfl, rfl⟩
            go_wp2_with fail
            refine (rlim_k now n _ HNW.out).mono ?_
            rintro e w' ⟨rfl, rfl⟩
            go_wp2_with fail
            refine (rword_k u _ _ hu HW.out).mono ?_
            rintro e w' ⟨rfl, rfl⟩
            go_wp2_with fail
            refine HA.out.mono ?_
            rintro e w' ⟨rfl, rfl⟩
            go_wp2_with fail
            have HX1 := Lib.hid (HX.out.step (Below.refl w.heap.size w).drew)
            have HB1 := Lib.hid (Bo.of_below (Below.refl w.heap.size w).drew hlo)
            refine wp_region_held_drew (S := fun V => V.cell? ⟨b, 0, none⟩ = some (.int .i64 most) ∧ V.cell? ⟨b, 1, none⟩ = some (.slice ao L.length cap)) (by kernel_rfl) (And.intro c0 c1) (fun hS => ?_)
            refine wpAnyH_take (i := 0) (oi := { dst := some 58, op := _, type := _, pos := _, after := _, guard := _ }) (v := ?_) rfl (by kernel_rfl) (by kernel_rfl) (by kernel_rfl) (fun _ _ _ h => h) (Or.inl ⟨by rfl, ?_⟩) (by assumption) ?_
            rotate_left
            · intro w hSw
              try dsimp only at hSw
              go_simp
              try with_reducible rfl
            try simp only [Act.put, List.setIfInBounds_toArray, List.set_cons_zero, List.set_cons_succ]
            refine wpAnyH_take (i := 1) (oi := { dst := some 59, op := _, type := _, pos := _, after := _, guard := _ }) (v := ?_) rfl (by kernel_rfl) (by kernel_rfl) (by kernel_rfl) (fun _ _ _ h => h) (Or.inl ⟨by rfl, ?_⟩) (by assumption) ?_
            rotate_left
            · intro w hSw
              try dsimp only at hSw
              go_simp
              try with_reducible rfl
            try simp only [Act.put, List.setIfInBounds_toArray, List.set_cons_zero, List.set_cons_succ]
            refine wpAnyH_take (i := 2) (oi := { dst := some 60, op := _, type := _, pos := _, after := _, guard := _ }) (v := ?_) rfl (by kernel_rfl) (by kernel_rfl) (by kernel_rfl) (fun _ _ _ h => h) (Or.inl ⟨by rfl, ?_⟩) (by assumption) ?_
            rotate_left
            · intro w hSw
              try dsimp only at hSw
              go_simp
              try with_reducible rfl
            try simp only [Act.put, List.setIfInBounds_toArray, List.set_cons_zero, List.set_cons_succ]
            refine wpAnyH_take (i := 3) (oi := { dst := some 61, op := _, type := _, pos := _, after := _, guard := _ }) (v := ?_) rfl (by kernel_rfl) (by kernel_rfl) (by kernel_rfl) (fun _ _ _ h => h) (Or.inl ⟨by rfl, ?_⟩) (by assumption) ?_
            rotate_left
            · intro w hSw
              try dsimp only at hSw
              go_simp
              try with_reducible rfl
            try simp only [Act.put, List.setIfInBounds_toArray, List.set_cons_zero, List.set_cons_succ]
            refine wpAnyH_take (i := 4) (oi := { dst := some 62, op := _, type := _, pos := _, after := _, guard := _ }) (v := ?_) rfl (by kernel_rfl) (by kernel_rfl) (by kernel_rfl) (fun _ _ _ h => h) (Or.inl ⟨by rfl, ?_⟩) (by assumption) ?_
            rotate_left
            · intro w hSw
              try dsimp only at hSw
              go_simp
              try with_reducible rfl
            try simp only [Act.put, List.setIfInBounds_toArray, List.set_cons_zero, List.set_cons_succ]
            refine wpAnyH_take (i := 5) (oi := { dst := some 63, op := _, type := _, pos := _, after := _, guard := _ }) (v := ?_) rfl (by kernel_rfl) (by kernel_rfl) (by kernel_rfl) (fun _ _ _ h => h) (Or.inl ⟨by rfl, ?_⟩) (by assumption) ?_
            rotate_left
            · intro w hSw
              try dsimp only at hSw
              go_simp
              try with_reducible rfl
            try simp only [Act.put, List.setIfInBounds_toArray, List.set_cons_zero, List.set_cons_succ]
            refine wpAnyH_take (i := 6) (oi := { dst := some 64, op := _, type := _, pos := _, after := _, guard := _ }) (v := ?_) rfl (by kernel_rfl) (by kernel_rfl) (by kernel_rfl) (fun _ _ _ h => h) (Or.inl ⟨by rfl, ?_⟩) (by assumption) ?_
            rotate_left
            · intro w hSw
              try dsimp only at hSw
              go_simp
              try with_reducible rfl
            try simp only [Act.put, List.setIfInBounds_toArray, List.set_cons_zero, List.set_cons_succ]
            refine wpAnyH_take (i := 7) (oi := { dst := some 65, op := _, type := _, pos := _, after := _, guard := _ }) (v := ?_) rfl (by kernel_rfl) (by kernel_rfl) (by kernel_rfl) (fun _ _ _ h => h) (Or.inl ⟨by rfl, ?_⟩) (by assumption) ?_
            rotate_left
            · intro w hSw
              try dsimp only at hSw
              go_simp
              try with_reducible rfl
            try simp only [Act.put, List.setIfInBounds_toArray, List.set_cons_zero, List.set_cons_succ]
            refine wpAnyH_take (i := 8) (oi := { dst := some 66, op := _, type := _, pos := _, after := _, guard := _ }) (v := ?_) rfl (by kernel_rfl) (by kernel_rfl) (by kernel_rfl) (fun _ _ _ h => h) (Or.inl ⟨by rfl, ?_⟩) (by assumption) ?_
            rotate_left
            · intro w hSw
              try dsimp only at hSw
              go_simp
              try with_reducible rfl
            try simp only [Act.put, List.setIfInBounds_toArray, List.set_cons_zero, List.set_cons_succ]
            refine wpAnyH_take (i := 9) (oi := { dst := some 67, op := _, type := _, pos := _, after := _, guard := _ }) (v := ?_) rfl (by kernel_rfl) (by kernel_rfl) (by kernel_rfl) (fun _ _ _ h => h) (Or.inl ⟨by rfl, ?_⟩) (by assumption) ?_
            rotate_left
            · intro w hSw
              try dsimp only at hSw
              go_simp
              try with_reducible rfl
            try simp only [Act.put, List.setIfInBounds_toArray, List.set_cons_zero, List.set_cons_succ]
            refine wpAnyH_done (by kernel_rfl) ?_ _
            clear c0 c1 f1
            go_wp2_with fail
            refine (HP.out _ (RL.len HX1.out) hlo).mono ?_
            rintro e w2 ⟨rfl, ⟨M, vM, hM, hMB⟩, hbM⟩
            have HM := Lib.hid hMB
            have hl2 : M.length = B.length := by rw [hMB, List.length_map]
            have hsz := hbM.bl.size
            have hlo2 : lo ≤ w2.heap.size := Nat.le_trans hlo hsz
            have HB := Lib.hid ((HB1.out.trans hbM).trans (Bo.of_below (Below.refl w2.heap.size w2).drew hlo2))
            obtain ⟨c0, c1⟩ := hM.flat
            obtain ⟨ao, cap, rfl, s1, s2, s3⟩ := hM.shape
            have HX := Lib.hid (hM.step (Below.refl w2.heap.size w2).drew)
            have hlr : M.length ≤ 256 := by omega
            have d6' := d6
            rw [← hl2] at d6'
            clear d6 hMB hbM s3 hM hsz HX1 HB1 hl2 hBl
            go_wp2_with fail
            clear d5
            refine wp_region_held_drew (S := fun V => V.cell? ⟨b, 0, none⟩ = some (.int .i64 most) ∧ V.cell? ⟨b, 1, none⟩ = some (.slice ao M.length cap)) (by kernel_rfl) (And.intro c0 c1) (fun hS => ?_)
            refine wpAnyH_take (i := 0) (oi := { dst := some 71, op := _, type := _, pos := _, after := _, guard := _ }) (v := ?_) rfl (by kernel_rfl) (by kernel_rfl) (by kernel_rfl) (fun _ _ _ h => h) (Or.inl ⟨by rfl, ?_⟩) (by assumption) ?_
            rotate_left
            · intro w hSw
              try dsimp only at hSw
              go_simp
              try with_reducible rfl
            try simp only [Act.put, List.setIfInBounds_toArray, List.set_cons_zero, List.set_cons_succ]
            refine wpAnyH_take (i := 1) (oi := { dst := some 72, op := _, type := _, pos := _, after := _, guard := _ }) (v := ?_) rfl (by kernel_rfl) (by kernel_rfl) (by kernel_rfl) (fun _ _ _ h => h) (Or.inl ⟨by rfl, ?_⟩) (by assumption) ?_
            rotate_left
            · intro w hSw
              try dsimp only at hSw
              go_simp
              try with_reducible rfl
            try simp only [Act.put, List.setIfInBounds_toArray, List.set_cons_zero, List.set_cons_succ]
            refine wpAnyH_take (i := 2) (oi := { dst := some 73, op := _, type := _, pos := _, after := _, guard := _ }) (v := ?_) rfl (by kernel_rfl) (by kernel_rfl) (by kernel_rfl) (fun _ _ _ h => h) (Or.inl ⟨by rfl, ?_⟩) (by assumption) ?_
            rotate_left
            · intro w hSw
              try dsimp only at hSw
              go_simp
              try with_reducible rfl
            try simp only [Act.put, List.setIfInBounds_toArray, List.set_cons_zero, List.set_cons_succ]
            refine wpAnyH_take (i := 3) (oi := { dst := some 74, op := _, type := _, pos := _, after := _, guard := _ }) (v := ?_) rfl (by kernel_rfl) (by kernel_rfl) (by kernel_rfl) (fun _ _ _ h => h) (Or.inl ⟨by rfl, ?_⟩) (by assumption) ?_
            rotate_left
            · intro w hSw
              try dsimp only at hSw
              go_simp
              try with_reducible rfl
            try simp only [Act.put, List.setIfInBounds_toArray, List.set_cons_zero, List.set_cons_succ]
            refine wpAnyH_take (i := 4) (oi := { dst := some 75, op := _, type := _, pos := _, after := _, guard := _ }) (v := ?_) rfl (by kernel_rfl) (by kernel_rfl) (by kernel_rfl) (fun _ _ _ h => h) (Or.inl ⟨by rfl, ?_⟩) (by assumption) ?_
            rotate_left
            · intro w hSw
              try dsimp only at hSw
              go_simp
              try with_reducible rfl
            try simp only [Act.put, List.setIfInBounds_toArray, List.set_cons_zero, List.set_cons_succ]
            refine wpAnyH_take (i := 5) (oi := { dst := some 76, op := _, type := _, pos := _, after := _, guard := _ }) (v := ?_) rfl (by kernel_rfl) (by kernel_rfl) (by kernel_rfl) (fun _ _ _ h => h) (Or.inl ⟨by rfl, ?_⟩) (by assumption) ?_
            rotate_left
            · intro w hSw
              try dsimp only at hSw
              go_simp
              try with_reducible rfl
            try simp only [Act.put, List.setIfInBounds_toArray, List.set_cons_zero, List.set_cons_succ]
            refine wpAnyH_take (i := 6) (oi := { dst := some 77, op := _, type := _, pos := _, after := _, guard := _ }) (v := ?_) rfl (by kernel_rfl) (by kernel_rfl) (by kernel_rfl) (fun _ _ _ h => h) (Or.inl ⟨by rfl, ?_⟩) (by assumption) ?_
            rotate_left
            · intro w hSw
              try dsimp only at hSw
              go_simp
              try with_reducible rfl
            try simp only [Act.put, List.setIfInBounds_toArray, List.set_cons_zero, List.set_cons_succ]
            refine wpAnyH_take (i := 7) (oi := { dst := some 78, op := _, type := _, pos := _, after := _, guard := _ }) (v := ?_) rfl (by kernel_rfl) (by kernel_rfl) (by kernel_rfl) (fun _ _ _ h => h) (Or.inl ⟨by rfl, ?_⟩) (by assumption) ?_
            rotate_left
            · intro w hSw
              try dsimp only at hSw
              go_simp
              try with_reducible rfl
            try simp only [Act.put, List.setIfInBounds_toArray, List.set_cons_zero, List.set_cons_succ]
            refine wpAnyH_take (i := 8) (oi := { dst := some 79, op := _, type := _, pos := _, after := _, guard := _ }) (v := ?_) rfl (by kernel_rfl) (by kernel_rfl) (by kernel_rfl) (fun _ _ _ h => h) (Or.inl ⟨by rfl, ?_⟩) (by assumption) ?_
            rotate_left
            · intro w hSw
              try dsimp only at hSw
              go_simp
              try with_reducible rfl
            try simp only [Act.put, List.setIfInBounds_toArray, List.set_cons_zero, List.set_cons_succ]
            refine wpAnyH_take (i := 9) (oi := { dst := some 80, op := _, type := _, pos := _, after := _, guard := _ }) (v := ?_) rfl (by kernel_rfl) (by kernel_rfl) (by kernel_rfl) (fun _ _ _ h => h) (Or.inl ⟨by rfl, ?_⟩) (by assumption) ?_
            rotate_left
            · intro w hSw
              try dsimp only at hSw
              go_simp
              try with_reducible rfl
            try simp only [Act.put, List.setIfInBounds_toArray, List.set_cons_zero, List.set_cons_succ]
            refine wpAnyH_done (by kernel_rfl) ?_ _
            go_wp2_with fail
            go_ret
            exact ⟨rfl, ⟨_, _, HX.out, HM.out⟩, HB.out⟩
end Go.Proofs.Yteoaekjhicphlaa
