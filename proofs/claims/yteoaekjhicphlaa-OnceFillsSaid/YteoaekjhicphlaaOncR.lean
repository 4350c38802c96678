/-
  Contracts of the specification's registers: New, at, Len, Seen, Purge, Use. Condition: at most 256 items; identifiers of at most 1000000000 bytes.
-/
import Derived.Test.YteoaekjhicphlaaOncMem
import Derived.Test.YteoaekjhicphlaaOncB
import Derived.BigQuiet
import Derived.Deep.AppendLies
set_option maxRecDepth 100000
set_option linter.unusedVariables false
set_option linter.unusedSimpArgs false
set_option linter.unnecessarySimpa false
namespace Go.Proofs.Yteoaekjhicphlaa
open Go.RowKit Go.PlainAid

def itU (r : Itm) : ByteArray × Int := (r.id, r.un)
def rrO (most : Int) (v : Value) : Obj := .cells #[.int .i64 most, v] 54
theorem ownR_below {w V : World} {base k n : Nat} {e : TypeId} {v : Value} {xs : List Value} (h : w.ownsRow base e k v n xs) (hb : Below w.heap.size w V) : V.ownsRow base e k v n xs := by
  have h0 := h
  obtain ⟨h1, h2⟩ := h
  refine ⟨h1, ?_⟩
  rcases h2 with h2 | ⟨g, cap, cur, rfl, h3, h4, h5⟩
  · exact .inl h2
  · exact .inr ⟨g, cap, cur, rfl, h3, (hb.block g (h0.lt g rfl).2).trans h4, h5⟩
/-- the specification's register: its block b, the value v of its slice; all of it lies above lo -/
structure RX (W : World) (lo b : Nat) (most : Int) (L : List Itm) (v : Value) : Prop where
  obj : KbC W b (rrO most v)
  own : W.ownsRow lo 57 2 v L.length (itcs L)
  lob : lo ≤ b
  ne : v.ownBlock ≠ some b
def RL (W : World) (lo b : Nat) (most : Int) (A : Ol) : Prop := ∃ L v, RX W lo b most L v ∧ A = L.map itU
section
variable {W V : World} {lo b : Nat} {most : Int} {L : List Itm} {v : Value} {A : Ol}
theorem RX.keep (h : RX W lo b most L v) (hb : ∀ i, lo ≤ i → i < W.heap.size → V.heap[i]? = W.heap[i]?) : RX V lo b most L v :=
  ⟨(hb b h.lob h.obj.big).trans h.obj, by
      have h0 := h.own
      obtain ⟨h1, h2⟩ := h.own
      refine ⟨h1, ?_⟩
      rcases h2 with h2 | ⟨g, cap, cur, rfl, h3, h4, h5⟩
      · exact .inl h2
      · exact .inr ⟨g, cap, cur, rfl, h3, (hb g h3 (h0.lt g rfl).2).trans h4, h5⟩, h.lob, h.ne⟩
theorem RX.step (h : RX W lo b most L v) (hb : Below W.heap.size W V) : RX V lo b most L v := h.keep fun i _ hi => hb.block i hi
theorem RL.keep (h : RL W lo b most A) (hb : ∀ i, lo ≤ i → i < W.heap.size → V.heap[i]? = W.heap[i]?) : RL V lo b most A := by
  obtain ⟨L, v, h, e⟩ := h; exact ⟨L, v, h.keep hb, e⟩
theorem RL.step (h : RL W lo b most A) (hb : Below W.heap.size W V) : RL V lo b most A := h.keep fun i _ hi => hb.block i hi
theorem RX.flat (h : RX W lo b most L v) : W.cell? ⟨b, 0, none⟩ = some (.int .i64 most) ∧ W.cell? ⟨b, 1, none⟩ = some v := by
  have := h.obj
  unfold rrO at this
  exact ⟨this.cell rfl, this.cell rfl⟩
theorem RX.frz (h : RX W lo b most L v) (j : Nat) : W.frozen? ⟨b, j, none⟩ = false := by
  have := h.obj
  unfold rrO at this
  exact this.frz
/-- the slice of items, its cells -/
theorem RX.shape (h : RX W lo b most L v) : ∃ ao cap, v = .slice ao L.length cap ∧ L.length ≤ cap ∧ cap ≤ maxLen ∧ (0 < L.length → ∃ g, ao = some ⟨g, 0, none⟩ ∧ lo ≤ g ∧ g ≠ b ∧ g < W.heap.size ∧ IsIts W g 0 L ∧ ∀ j, W.frozen? ⟨g, j, none⟩ = false) := by
  obtain ⟨ao, cap, e, a1, a2, a3, a4, a5⟩ := its_of_owns h.own
  refine ⟨ao, cap, e, a2, a3, fun hn => ?_⟩
  subst e
  obtain ⟨h1, ⟨h2, h3⟩ | ⟨g, cap, cur, e, h3, h4, h5⟩⟩ := h.own
  · omega
  · injection e with e _ e2
    obtain ⟨b', off, q, hi⟩ := a4 hn
    rw [e] at q
    cases q
    exact ⟨g, e, h3, fun k => h.ne (by rw [e, k]; rfl), hi.1, hi, fun j => KbC.frz (show KbC W g (.cells cur 57) from h4)⟩
end
theorem it_map {L : List Itm} {k : Nat} (h : k < L.length) : (L.map itU)[k]'(by simpa using h) = ((itA L k).id, (itA L k).un) := by
  rw [List.getElem_map, ← it_get h]; rfl
/-- where an identifier stands -/
def ixI (L : List Itm) (u : ByteArray) : Int := match L.findIdx? (fun r => decide (r.id = u)) with
  | some k => (k : Int)
  | none => -1
theorem ixI_hit {L : List Itm} {u : ByteArray} {k : Nat} (hk : k < L.length) (hu : (itA L k).id = u) (hn : ∀ j, j < k → (itA L j).id ≠ u) : ixI L u = (k : Int) := by
  unfold ixI
  have : L.findIdx? (fun r => decide (r.id = u)) = some k := by
    rw [List.findIdx?_eq_some_iff_getElem]
    refine ⟨hk, by rw [← it_get hk]; exact decide_eq_true hu, fun j hj => ?_⟩
    have := hn j hj
    rw [it_get (by omega)] at this
    simpa using this
  rw [this]
theorem ixI_miss {L : List Itm} {u : ByteArray} (h : ∀ j, j < L.length → (itA L j).id ≠ u) : ixI L u = -1 := by
  unfold ixI
  have : L.findIdx? (fun r => decide (r.id = u)) = none := by
    rw [List.findIdx?_eq_none_iff]
    intro r hr
    obtain ⟨j, hj, rfl⟩ := List.mem_iff_getElem.1 hr
    have := h j hj
    rw [it_get hj] at this
    simpa using this
  rw [this]
theorem olO_first : ∀ {L : List Itm} {u : ByteArray} {k : Nat}, k < L.length → (itA L k).id = u → (∀ j, j < k → (itA L j).id ≠ u) → olO (L.map itU) u = some (itA L k).un
  | [], _, _, h, _, _ => absurd h (Nat.not_lt_zero _)
  | r :: L, u, 0, _, hu, _ => by
    have hu : r.id = u := hu
    show (if u = r.id then some r.un else _) = _
    rw [if_pos hu.symm]; rfl
  | r :: L, u, k + 1, h, hu, hn => by
    have h0 : r.id ≠ u := hn 0 (by omega)
    show (if u = r.id then some r.un else olO (L.map itU) u) = _
    rw [if_neg fun e => h0 e.symm]
    exact olO_first (by simpa using h) hu fun j hj => hn (j + 1) (by omega)
theorem olO_miss {L : List Itm} {u : ByteArray} (h : ∀ j, j < L.length → (itA L j).id ≠ u) : olO (L.map itU) u = none := by
  rw [olO_none]
  intro p hp
  obtain ⟨r, hr, rfl⟩ := List.mem_map.1 hp
  obtain ⟨j, hj, rfl⟩ := List.mem_iff_getElem.1 hr
  have := h j hj
  rw [it_get hj] at this
  exact this
/-- an identifier stands at k, first, or not at all -/
theorem find_cases (L : List Itm) (u : ByteArray) : (∃ k, k < L.length ∧ (itA L k).id = u ∧ (∀ j, j < k → (itA L j).id ≠ u) ∧ ixI L u = (k : Int) ∧ olO (L.map itU) u = some (itA L k).un) ∨ (ixI L u = -1 ∧ olO (L.map itU) u = none) := by
  by_cases h : ∃ k, k < L.length ∧ (itA L k).id = u
  · left
    have hf : ∃ k, (k < L.length ∧ (itA L k).id = u) ∧ ∀ j, j < k → ¬ (j < L.length ∧ (itA L j).id = u) := by
      obtain ⟨k, hk⟩ := h
      induction k using Nat.strongRecOn with
      | _ k ih =>
        by_cases q : ∃ j, j < k ∧ (j < L.length ∧ (itA L j).id = u)
        · obtain ⟨j, hj, hj2⟩ := q; exact ih j hj hj2
        · exact ⟨k, hk, fun j hj hj2 => q ⟨j, hj, hj2⟩⟩
    obtain ⟨k, ⟨h1, h2⟩, h3⟩ := hf
    have h4 : ∀ j, j < k → (itA L j).id ≠ u := fun j hj e => h3 j hj ⟨by omega, e⟩
    exact ⟨k, h1, h2, h4, ixI_hit h1 h2 h4, olO_first h1 h2 h4⟩
  · right
    have h4 : ∀ j, j < L.length → (itA L j).id ≠ u := fun j hj e => h ⟨j, hj, e⟩
    exact ⟨ixI_miss h4, olO_miss h4⟩
theorem rlim_k (t x : Int) (w : World) (hx : limI t = x) :
    Calls Try.prog 27 #[.int .i64 t] w fun e w' => e = .returned (.int .i64 x) ∧ w = w' := hx ▸ limit_s t w
theorem rword_k (s : ByteArray) (x : Bool) (w : World) (hs : s.size ≤ 1000000000) (hx : wordB s = x) :
    Calls Try.prog 28 #[.string s] w fun e w' => e = .returned (.bool x) ∧ w = w' := hx ▸ rWord_s s w hs
set_option maxHeartbeats 2000000 in
theorem rat_k (lo b : Nat) (most : Int) (L : List Itm) (v : Value) (u : ByteArray) (i : Int) (w : World) (h : RX w lo b most L v) (hi : ixI L u = i) :
    Calls Try.prog 29 #[.pointer (some ⟨b, 0, none⟩), .string u] w fun e w' => e = .returned (.int .i64 i) ∧ w = w' := by
  have HI := Lib.hid hi
  obtain ⟨c0, c1⟩ := h.flat
  obtain ⟨ao, cap, rfl, h1, h2, h3⟩ := h.shape
  unfold maxLen at h2
  have H3 := Lib.hid h3
  clear h h3 hi c0
  go_enter Try.func29, Try.ntmps29
  go_wp2_with fail
  go_loopw [5] (fun iv wr => ∃ k : Nat, k ≤ L.length ∧ iv = .int .i64 k ∧ Hid (∀ j, j < k → (itA L j).id ≠ u) ∧ wr = w) (fun iv _ => L.length - (intOf iv).toNat)
  case atStart => exact ⟨0, Nat.zero_le _, rfl, Lib.hid fun j hj => absurd hj (Nat.not_lt_zero _), rfl⟩
  case round =>
    obtain ⟨k, hk, rfl, HN, rfl⟩ := hrel
    by_cases hlt : k < L.length
    · obtain ⟨g, rfl, _, hgb, hgl, hc, _⟩ := H3.out (by omega)
      have d0 := (hc.at_ hlt).c0
      rw [Nat.zero_add] at d0
      obtain ⟨x, hx⟩ : ∃ x, (itA L k).id = x := ⟨_, rfl⟩
      rw [hx] at d0
      have i1 : (k : Int) < (L.length : Int) := by omega
      clear hc hgb hgl
      by_cases e : x = u
      · subst e
        have q1 : (x.toList == x.toList) = true := beq_self_eq_true _
        have HE := Lib.hid (show i = (k : Int) by rw [← HI.out]; exact ixI_hit hlt hx HN.out)
        clear hx
        go_wp2_with fail
        go_ret
        exact ⟨by rw [HE.out]; rfl, rfl⟩
      · have q1 : (x.toList == u.toList) = false := by
          rw [Lib.toList_data, Lib.toList_data]
          refine beq_false_of_ne fun q => e ?_
          rw [← Lib.mk_data x, ← Lib.mk_data u, q]
        have HN1 : Hid (∀ j, j < k + 1 → (itA L j).id ≠ u) := Lib.hid fun j hj => if q : j = k then by rw [q, hx]; exact e else HN.out j (by omega)
        clear hx
        go_wp2_with fail
        go_roundw
        case rel => exact ⟨k + 1, by omega, by go_num, HN1, (by first | trivial | rfl)⟩
        case measure => simp [intOf]; omega
    · obtain rfl : k = L.length := by omega
      have HE := Lib.hid (show i = -1 by rw [← HI.out]; exact ixI_miss HN.out)
      go_wp2_with fail
      go_ret
      exact ⟨by rw [HE.out]; rfl, rfl⟩
theorem rlen_k (lo b : Nat) (most : Int) (A : Ol) (n : Nat) (w : World) (h : RL w lo b most A) (hn : A.length = n) :
    Calls Try.prog 20 #[.pointer (some ⟨b, 0, none⟩)] w fun e w' => e = .returned (.int .i64 n) ∧ w = w' := by
  obtain ⟨L, v, h, rfl⟩ := h
  rw [List.length_map] at hn
  obtain ⟨c0, c1⟩ := h.flat
  obtain ⟨ao, cap, rfl, h1, h2, h3⟩ := h.shape
  rw [hn] at c1
  clear h h1 h2 h3 c0 hn
  go_enter Try.func20, Try.ntmps20
  go_wp2_with fail
  go_ret
  exact ⟨rfl, rfl⟩
theorem rnew_bad (most : Int) (w : World) (h : ¬ (1 ≤ most ∧ most ≤ 256)) :
    Calls Try.prog 12 #[.int .i64 most] w fun e w' => e = .returned (.tuple #[.pointer none, .int .i64 2]) ∧ w = w' := by
  by_cases h1 : 1 ≤ most
  · have d1 : ¬ most < 1 := by omega
    have d2 : 256 < most := by omega
    clear h
    go_enter Try.func12, Try.ntmps12
    go_wp2_with fail
    go_ret2
    exact ⟨rfl, rfl⟩
  · have d1 : most < 1 := by omega
    clear h
    go_enter Try.func12, Try.ntmps12
    go_wp2_with fail
    go_ret2
    exact ⟨rfl, rfl⟩
theorem rl_new (w : World) (most : Int) : RL (w.alloc (rrO most (.slice none 0 0))) w.heap.size w.heap.size most [] :=
  ⟨[], _, ⟨kbc_new w _, World.ownsRow_nil _ _ _ _, Nat.le_refl _, fun e => by cases e⟩, rfl⟩
theorem rnew_k (most : Int) (w : World) (h0 : 1 ≤ most) (h1 : most ≤ 256) :
    Calls Try.prog 12 #[.int .i64 most] w fun e w' => e = .returned (.tuple #[.pointer (some ⟨w.heap.size, 0, none⟩), .int .i64 0]) ∧ RL w' w.heap.size w.heap.size most [] ∧ Below w.heap.size w w' := by
  have HN := Lib.hid (rl_new w most)
  have HB := Lib.hid (box_below w (rrO most (.slice none 0 0)))
  have d1 : ¬ most < 1 := by omega
  have d2 : ¬ 256 < most := by omega
  unfold rrO at HN HB
  go_enter Try.func12, Try.ntmps12
  go_wp2_with fail
  go_ret2
  exact ⟨rfl, HN.out, HB.out⟩
set_option maxHeartbeats 4000000 in
theorem rseen_k (lo b : Nat) (most : Int) (A : Ol) (u : ByteArray) (now n : Int) (x : Bool) (w : World) (h : RL w lo b most A) (hn : limI now = n) (hx : decide (n < atA A u) = x) :
    Calls Try.prog 16 #[.pointer (some ⟨b, 0, none⟩), .string u, .int .i64 now] w fun e w' => e = .returned (.bool x) ∧ Below w.heap.size w w' := by
  obtain ⟨L, v, h, rfl⟩ := h
  have HN := Lib.hid hn
  have hnb := limI_bd now
  rw [hn] at hnb
  obtain ⟨c0, c1⟩ := h.flat
  have hbb := h.obj.big
  rcases find_cases L u with ⟨k, h1, h2, h3, h4, h5⟩ | ⟨h4, h5⟩
  · have HA := Lib.hid (rat_k lo b most L v u _ w h h4)
    obtain ⟨ao, cap, rfl, s1, s2, s3⟩ := h.shape
    obtain ⟨g, rfl, hlg, hgb, hgl, hc, _⟩ := s3 (by omega)
    have d1 := (hc.at_ h1).c1
    rw [Nat.zero_add] at d1
    rw [olO_at h5] at hx
    obtain ⟨z, hz⟩ : ∃ z, (itA L k).un = z := ⟨_, rfl⟩
    rw [hz] at d1 hx
    have HX := Lib.hid hx
    have HSt : Hid (∀ V, Below w.heap.size w V → V.cell? ⟨b, 1, none⟩ = some (.slice (some ⟨g, 0, none⟩) L.length cap) ∧ V.cell? ⟨g, k * 2 + 1, none⟩ = some (.int .i64 z)) := Lib.hid fun V hV => ⟨(hV.cell (p := ⟨b, 1, none⟩) hbb).trans c1, (hV.cell (p := ⟨g, k * 2 + 1, none⟩) hgl).trans d1⟩
    have i1 : (k : Int) < (L.length : Int) := by omega
    have i2 : decide ((k : Int) < 0) = false := decide_eq_false (by omega)
    have i3 : decide ((0 : Int) ≤ (k : Int)) = true := decide_eq_true (by omega)
    unfold maxLen at s2
    clear h h2 h3 h4 h5 hx hz hc s3 hn hnb c0 c1 d1
    go_enter Try.func16, Try.ntmps16
    go_wp2_with fail
    refine HA.out.mono ?_
    rintro e w' ⟨rfl, rfl⟩
    go_wp2_with fail
    have HB := Lib.hid (Below.refl w.heap.size w).drew
    have S0 := HSt.out _ HB.out
    refine wp_region_held_drew (S := fun V => V.cell? ⟨b, 1, none⟩ = some (.slice (some ⟨g, 0, none⟩) L.length cap) ∧ V.cell? ⟨g, k * 2 + 1, none⟩ = some (.int .i64 z)) (by kernel_rfl) (S0) (fun hS => ?_)
    refine wpAnyH_take (i := 0) (oi := { dst := some 11, op := _, type := _, pos := _, after := _, guard := _ }) (v := ?_) rfl (by kernel_rfl) (by kernel_rfl) (by kernel_rfl) (fun _ _ _ h => h) (Or.inl ⟨by rfl, ?_⟩) (by assumption) ?_
    rotate_left
    · intro w hSw
      try dsimp only at hSw
      go_simp
      try with_reducible rfl
    try simp only [Act.put, List.setIfInBounds_toArray, List.set_cons_zero, List.set_cons_succ]
    refine wpAnyH_take (i := 1) (oi := { dst := some 12, op := _, type := _, pos := _, after := _, guard := _ }) (v := ?_) rfl (by kernel_rfl) (by kernel_rfl) (by kernel_rfl) (fun _ _ _ h => h) (Or.inl ⟨by rfl, ?_⟩) (by assumption) ?_
    rotate_left
    · intro w hSw
      try dsimp only at hSw
      go_simp
      try with_reducible rfl
    try simp only [Act.put, List.setIfInBounds_toArray, List.set_cons_zero, List.set_cons_succ]
    refine wpAnyH_take (i := 2) (oi := { dst := some 13, op := _, type := _, pos := _, after := _, guard := _ }) (v := ?_) rfl (by kernel_rfl) (by kernel_rfl) (by kernel_rfl) (fun _ _ _ h => h) (Or.inl ⟨by rfl, ?_⟩) (by assumption) ?_
    rotate_left
    · intro w hSw
      try dsimp only at hSw
      go_simp
      try with_reducible rfl
    try simp only [Act.put, List.setIfInBounds_toArray, List.set_cons_zero, List.set_cons_succ]
    refine wpAnyH_take (i := 3) (oi := { dst := some 14, op := _, type := _, pos := _, after := _, guard := _ }) (v := ?_) rfl (by kernel_rfl) (by kernel_rfl) (by kernel_rfl) (fun _ _ _ h => h) (Or.inl ⟨by rfl, ?_⟩) (by assumption) ?_
    rotate_left
    · intro w hSw
      try dsimp only at hSw
      go_simp
      try with_reducible rfl
    try simp only [Act.put, List.setIfInBounds_toArray, List.set_cons_zero, List.set_cons_succ]
    refine wpAnyH_take (i := 4) (oi := { dst := some 15, op := _, type := _, pos := _, after := _, guard := _ }) (v := ?_) rfl (by kernel_rfl) (by kernel_rfl) (by kernel_rfl) (fun _ _ _ h => h) (Or.inl ⟨by rfl, ?_⟩) (by assumption) ?_
    rotate_left
    · intro w hSw
      try dsimp only at hSw
      go_simp
      try with_reducible rfl
    try simp only [Act.put, List.setIfInBounds_toArray, List.set_cons_zero, List.set_cons_succ]
    refine wpAnyH_take (i := 5) (oi := { dst := some 16, op := _, type := _, pos := _, after := _, guard := _ }) (v := ?_) rfl (by kernel_rfl) (by kernel_rfl) (by kernel_rfl) (fun _ _ _ h => h) (Or.inl ⟨by rfl, ?_⟩) (by assumption) ?_
    rotate_left
    · intro w hSw
      try dsimp only at hSw
      go_simp
      try with_reducible rfl
    try simp only [Act.put, List.setIfInBounds_toArray, List.set_cons_zero, List.set_cons_succ]
    refine wpAnyH_take (i := 6) (oi := { dst := some 17, op := _, type := _, pos := _, after := _, guard := _ }) (v := ?_) rfl (by kernel_rfl) (by kernel_rfl) (by kernel_rfl) (fun _ _ _ h => h) (Or.inl ⟨by rfl, ?_⟩) (by assumption) ?_
    rotate_left
    · intro w hSw
      try dsimp only at hSw
      go_simp
      try with_reducible rfl
    try simp only [Act.put, List.setIfInBounds_toArray, List.set_cons_zero, List.set_cons_succ]
    refine wpAnyH_take (i := 7) (oi := { dst := some 18, op := _, type := _, pos := _, after := _, guard := _ }) (v := ?_) rfl (by kernel_rfl) (by kernel_rfl) (by kernel_rfl) (fun _ _ _ h => h) (Or.inl ⟨by rfl, ?_⟩) (by assumption) ?_
    rotate_left
    · intro w hSw
      try dsimp only at hSw
      go_simp
      try with_reducible rfl
    try simp only [Act.put, List.setIfInBounds_toArray, List.set_cons_zero, List.set_cons_succ]
    refine wpAnyH_take (i := 8) (oi := { dst := some 19, op := _, type := _, pos := _, after := _, guard := _ }) (v := ?_) rfl (by kernel_rfl) (by kernel_rfl) (by kernel_rfl) (fun _ _ _ h => h) (Or.inl ⟨by rfl, ?_⟩) (by assumption) ?_
    rotate_left
    · intro w hSw
      try dsimp only at hSw
      go_simp
      try with_reducible rfl
    try simp only [Act.put, List.setIfInBounds_toArray, List.set_cons_zero, List.set_cons_succ]
    refine wpAnyH_take (i := 9) (oi := { dst := some 20, op := _, type := _, pos := _, after := _, guard := _ }) (v := ?_) rfl (by kernel_rfl) (by kernel_rfl) (by kernel_rfl) (fun _ _ _ h => h) (Or.inl ⟨by rfl, ?_⟩) (by assumption) ?_
    rotate_left
    · intro w hSw
      try dsimp only at hSw
      go_simp
      try with_reducible rfl
    try simp only [Act.put, List.setIfInBounds_toArray, List.set_cons_zero, List.set_cons_succ]
    refine wpAnyH_take (i := 10) (oi := { dst := some 21, op := _, type := _, pos := _, after := _, guard := _ }) (v := ?_) rfl (by kernel_rfl) (by kernel_rfl) (by kernel_rfl) (fun _ _ _ h => h) (Or.inl ⟨by rfl, ?_⟩) (by assumption) ?_
    rotate_left
    · intro w hSw
      try dsimp only at hSw
      go_simp
      try with_reducible rfl
    try simp only [Act.put, List.setIfInBounds_toArray, List.set_cons_zero, List.set_cons_succ]
    refine wpAnyH_take (i := 11) (oi := { dst := some 22, op := _, type := _, pos := _, after := _, guard := _ }) (v := ?_) rfl (by kernel_rfl) (by kernel_rfl) (by kernel_rfl) (fun _ _ _ h => h) (Or.inl ⟨by rfl, ?_⟩) (by assumption) ?_
    rotate_left
    · intro w hSw
      try dsimp only at hSw
      go_simp
      try with_reducible rfl
    try simp only [Act.put, List.setIfInBounds_toArray, List.set_cons_zero, List.set_cons_succ]
    refine wpAnyH_ready (rs := [12]) (by kernel_rfl) (by simp) ?_
    refine AllReadyH.cons rfl (fun K hK => ?_) AllReadyH.nil
    go_simp
    refine (rlim_k now n _ HN.out).mono ?_
    rintro e w' ⟨rfl, rfl⟩
    go_wp2_with fail
    refine hK.out _ _ ?_ (fun hHeld => ?_)
    · exact HSt.out _ HB.out
    clear hK K
    try simp only [Act.put, List.setIfInBounds_toArray, List.set_cons_zero, List.set_cons_succ]
    refine wpAnyH_take (i := 13) (oi := { dst := some 24, op := _, type := _, pos := _, after := _, guard := _ }) (v := ?_) rfl (by kernel_rfl) (by kernel_rfl) (by kernel_rfl) (fun _ _ _ h => h) (Or.inl ⟨by rfl, ?_⟩) (by assumption) ?_
    rotate_left
    · intro w hSw
      try dsimp only at hSw
      go_simp
      try with_reducible rfl
    try simp only [Act.put, List.setIfInBounds_toArray, List.set_cons_zero, List.set_cons_succ]
    refine wpAnyH_take (i := 14) (oi := { dst := some 25, op := _, type := _, pos := _, after := _, guard := _ }) (v := ?_) rfl (by kernel_rfl) (by kernel_rfl) (by kernel_rfl) (fun _ _ _ h => h) (Or.inl ⟨by rfl, ?_⟩) (by assumption) ?_
    rotate_left
    · intro w hSw
      try dsimp only at hSw
      go_simp
      try with_reducible rfl
    try simp only [Act.put, List.setIfInBounds_toArray, List.set_cons_zero, List.set_cons_succ]
    refine wpAnyH_take (i := 15) (oi := { dst := some 6, op := _, type := _, pos := _, after := _, guard := _ }) (v := ?_) rfl (by kernel_rfl) (by kernel_rfl) (by kernel_rfl) (fun _ _ _ h => h) (Or.inl ⟨by rfl, ?_⟩) (by assumption) ?_
    rotate_left
    · intro w hSw
      try dsimp only at hSw
      go_simp
      try with_reducible rfl
    try simp only [Act.put, List.setIfInBounds_toArray, List.set_cons_zero, List.set_cons_succ]
    refine wpAnyH_done (by kernel_rfl) ?_ _
    go_wp2_with fail
    go_ret
    exact ⟨by rw [← HX.out]; rfl, HB.out⟩
  · have HA := Lib.hid (rat_k lo b most L v u _ w h h4)
    have HX := Lib.hid (show x = false by
      rw [← hx]
      unfold atA
      rw [h5]
      exact decide_eq_false (by simp; omega))
    clear h h4 h5 hx hn hnb c0 c1
    go_enter Try.func16, Try.ntmps16
    go_wp2_with fail
    refine HA.out.mono ?_
    rintro e w' ⟨rfl, rfl⟩
    go_wp2_with fail
    have HB := Lib.hid (Below.refl w.heap.size w).drew
    refine wp_region_held_drew (S := fun V => Hid (Below w.heap.size w V)) (by kernel_rfl) (HB) (fun hS => ?_)
    refine wpAnyH_take (i := 0) (oi := { dst := some 11, op := _, type := _, pos := _, after := _, guard := _ }) (v := ?_) rfl (by kernel_rfl) (by kernel_rfl) (by kernel_rfl) (fun _ _ _ h => h) (Or.inl ⟨by rfl, ?_⟩) (by assumption) ?_
    rotate_left
    · intro w hSw
      try dsimp only at hSw
      go_simp
      try with_reducible rfl
    try simp only [Act.put, List.setIfInBounds_toArray, List.set_cons_zero, List.set_cons_succ]
    refine wpAnyH_take (i := 1) (oi := { dst := some 12, op := _, type := _, pos := _, after := _, guard := _ }) (v := ?_) rfl (by kernel_rfl) (by kernel_rfl) (by kernel_rfl) (fun _ _ _ h => h) (Or.inl ⟨by rfl, ?_⟩) (by assumption) ?_
    rotate_left
    · intro w hSw
      try dsimp only at hSw
      go_simp
      try with_reducible rfl
    try simp only [Act.put, List.setIfInBounds_toArray, List.set_cons_zero, List.set_cons_succ]
    refine wpAnyH_take (i := 2) (oi := { dst := some 13, op := _, type := _, pos := _, after := _, guard := _ }) (v := ?_) rfl (by kernel_rfl) (by kernel_rfl) (by kernel_rfl) (fun _ _ _ h => h) (Or.inl ⟨by rfl, ?_⟩) (by assumption) ?_
    rotate_left
    · intro w hSw
      try dsimp only at hSw
      go_simp
      try with_reducible rfl
    try simp only [Act.put, List.setIfInBounds_toArray, List.set_cons_zero, List.set_cons_succ]
    refine wpAnyH_take (i := 3) (oi := { dst := some 14, op := _, type := _, pos := _, after := _, guard := _ }) (v := undef) rfl (by kernel_rfl) (by kernel_rfl) (by kernel_rfl) (fun _ _ _ h => h) (Or.inr ⟨by rfl, rfl⟩) (by assumption) ?_
    try simp only [Act.put, List.setIfInBounds_toArray, List.set_cons_zero, List.set_cons_succ]
    refine wpAnyH_take (i := 4) (oi := { dst := some 15, op := _, type := _, pos := _, after := _, guard := _ }) (v := undef) rfl (by kernel_rfl) (by kernel_rfl) (by kernel_rfl) (fun _ _ _ h => h) (Or.inr ⟨by rfl, rfl⟩) (by assumption) ?_
    try simp only [Act.put, List.setIfInBounds_toArray, List.set_cons_zero, List.set_cons_succ]
    refine wpAnyH_take (i := 5) (oi := { dst := some 16, op := _, type := _, pos := _, after := _, guard := _ }) (v := undef) rfl (by kernel_rfl) (by kernel_rfl) (by kernel_rfl) (fun _ _ _ h => h) (Or.inr ⟨by rfl, rfl⟩) (by assumption) ?_
    try simp only [Act.put, List.setIfInBounds_toArray, List.set_cons_zero, List.set_cons_succ]
    refine wpAnyH_take (i := 6) (oi := { dst := some 17, op := _, type := _, pos := _, after := _, guard := _ }) (v := undef) rfl (by kernel_rfl) (by kernel_rfl) (by kernel_rfl) (fun _ _ _ h => h) (Or.inr ⟨by rfl, rfl⟩) (by assumption) ?_
    try simp only [Act.put, List.setIfInBounds_toArray, List.set_cons_zero, List.set_cons_succ]
    refine wpAnyH_take (i := 7) (oi := { dst := some 18, op := _, type := _, pos := _, after := _, guard := _ }) (v := undef) rfl (by kernel_rfl) (by kernel_rfl) (by kernel_rfl) (fun _ _ _ h => h) (Or.inr ⟨by rfl, rfl⟩) (by assumption) ?_
    try simp only [Act.put, List.setIfInBounds_toArray, List.set_cons_zero, List.set_cons_succ]
    refine wpAnyH_take (i := 8) (oi := { dst := some 19, op := _, type := _, pos := _, after := _, guard := _ }) (v := undef) rfl (by kernel_rfl) (by kernel_rfl) (by kernel_rfl) (fun _ _ _ h => h) (Or.inr ⟨by rfl, rfl⟩) (by assumption) ?_
    try simp only [Act.put, List.setIfInBounds_toArray, List.set_cons_zero, List.set_cons_succ]
    refine wpAnyH_take (i := 9) (oi := { dst := some 20, op := _, type := _, pos := _, after := _, guard := _ }) (v := undef) rfl (by kernel_rfl) (by kernel_rfl) (by kernel_rfl) (fun _ _ _ h => h) (Or.inr ⟨by rfl, rfl⟩) (by assumption) ?_
    try simp only [Act.put, List.setIfInBounds_toArray, List.set_cons_zero, List.set_cons_succ]
    refine wpAnyH_take (i := 10) (oi := { dst := some 21, op := _, type := _, pos := _, after := _, guard := _ }) (v := undef) rfl (by kernel_rfl) (by kernel_rfl) (by kernel_rfl) (fun _ _ _ h => h) (Or.inr ⟨by rfl, rfl⟩) (by assumption) ?_
    try simp only [Act.put, List.setIfInBounds_toArray, List.set_cons_zero, List.set_cons_succ]
    refine wpAnyH_take (i := 11) (oi := { dst := some 22, op := _, type := _, pos := _, after := _, guard := _ }) (v := undef) rfl (by kernel_rfl) (by kernel_rfl) (by kernel_rfl) (fun _ _ _ h => h) (Or.inr ⟨by rfl, rfl⟩) (by assumption) ?_
    try simp only [Act.put, List.setIfInBounds_toArray, List.set_cons_zero, List.set_cons_succ]
    refine wpAnyH_take (i := 12) (oi := { dst := some 23, op := _, type := _, pos := _, after := _, guard := _ }) (v := undef) rfl (by kernel_rfl) (by kernel_rfl) (by kernel_rfl) (fun _ _ _ h => h) (Or.inr ⟨by rfl, rfl⟩) (by assumption) ?_
    try simp only [Act.put, List.setIfInBounds_toArray, List.set_cons_zero, List.set_cons_succ]
    refine wpAnyH_take (i := 13) (oi := { dst := some 24, op := _, type := _, pos := _, after := _, guard := _ }) (v := undef) rfl (by kernel_rfl) (by kernel_rfl) (by kernel_rfl) (fun _ _ _ h => h) (Or.inr ⟨by rfl, rfl⟩) (by assumption) ?_
    try simp only [Act.put, List.setIfInBounds_toArray, List.set_cons_zero, List.set_cons_succ]
    refine wpAnyH_take (i := 14) (oi := { dst := some 25, op := _, type := _, pos := _, after := _, guard := _ }) (v := ?_) rfl (by kernel_rfl) (by kernel_rfl) (by kernel_rfl) (fun _ _ _ h => h) (Or.inl ⟨by rfl, ?_⟩) (by assumption) ?_
    rotate_left
    · intro w hSw
      try dsimp only at hSw
      go_simp
      try with_reducible rfl
    try simp only [Act.put, List.setIfInBounds_toArray, List.set_cons_zero, List.set_cons_succ]
    refine wpAnyH_take (i := 15) (oi := { dst := some 6, op := _, type := _, pos := _, after := _, guard := _ }) (v := ?_) rfl (by kernel_rfl) (by kernel_rfl) (by kernel_rfl) (fun _ _ _ h => h) (Or.inl ⟨by rfl, ?_⟩) (by assumption) ?_
    rotate_left
    · intro w hSw
      try dsimp only at hSw
      go_simp
      try with_reducible rfl
    try simp only [Act.put, List.setIfInBounds_toArray, List.set_cons_zero, List.set_cons_succ]
    refine wpAnyH_done (by kernel_rfl) ?_ _
    go_wp2_with fail
    go_ret
    exact ⟨by rw [HX.out]; rfl, HB.out⟩
end Go.Proofs.Yteoaekjhicphlaa
