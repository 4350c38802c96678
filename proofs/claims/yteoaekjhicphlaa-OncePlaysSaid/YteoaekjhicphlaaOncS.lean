/-
  Contracts of the specification's Purge and Use. Condition: at most 256 items; identifiers of at most 1000000000 bytes.
-/
import Derived.Test.YteoaekjhicphlaaOncR
set_option maxRecDepth 100000
set_option linter.unusedVariables false
set_option linter.unusedSimpArgs false
set_option linter.unnecessarySimpa false
namespace Go.Proofs.Yteoaekjhicphlaa
open Go.RowKit Go.PlainAid

theorem row_far {w : World} {base k n b : Nat} {e : TypeId} {v : Value} {xs : List Value} (h : w.ownsRow base e k v n xs) (hb : b < base) : v.ownBlock ≠ some b := fun q => by
  have := (h.lt b q).1
  omega
theorem row_mono {w : World} {base lo k n : Nat} {e : TypeId} {v : Value} {xs : List Value} (h : w.ownsRow base e k v n xs) (hl : lo ≤ base) : w.ownsRow lo e k v n xs := by
  obtain ⟨h1, h2⟩ := h
  refine ⟨h1, ?_⟩
  rcases h2 with h2 | ⟨g, cap, cur, rfl, h3, h4, h5⟩
  · exact .inl h2
  · exact .inr ⟨g, cap, cur, rfl, Nat.le_trans hl h3, h4, h5⟩
theorem row_other {w : World} {base k n : Nat} {e : TypeId} {v : Value} {xs : List Value} (h : w.ownsRow base e k v n xs) (a : Addr) (x : Value) (hne : v.ownBlock ≠ some a.block) : (w.setCell a x).ownsRow base e k v n xs := by
  obtain ⟨h1, h2⟩ := h
  refine ⟨h1, ?_⟩
  rcases h2 with h2 | ⟨g, cap, cur, rfl, h3, h4, h5⟩
  · exact .inl h2
  · exact .inr ⟨g, cap, cur, rfl, h3, (heap_setCell_other w a g x (fun e => hne (by rw [← e]; rfl))).trans h4, h5⟩
theorem own_setI {w : World} {lo n g cap : Nat} {xs : List Value} (h : w.ownsRow lo 57 2 (.slice (some ⟨g, 0, none⟩) n cap) n xs) (j : Nat) (x : Value) : (w.setCell ⟨g, j, none⟩ x).ownsRow lo 57 2 (.slice (some ⟨g, 0, none⟩) n cap) n (xs.set j x) := by
  obtain ⟨h1, ⟨e, _⟩ | ⟨g', cap', cur, e, h3, h4, h5, h6, h7, h8⟩⟩ := h
  · cases e
  · cases e
    exact ⟨by rw [List.length_set]; exact h1, .inr ⟨g, cap, cur.setIfInBounds j x, rfl, h3, KbC.set (i := j) h4 x, h5, h6, by simp [h7], by rw [Array.toList_setIfInBounds, List.take_set, h8]⟩⟩
theorem itcs_setn : ∀ (L : List Itm) (k : Nat) (n : Int), k < L.length → (itcs L).set (k * 2 + 1) (.int .i64 n) = itcs (L.set k ⟨(itA L k).id, n⟩)
  | [], k, n, h => absurd h (Nat.not_lt_zero _)
  | r :: L, 0, n, h => rfl
  | r :: L, k + 1, n, h => by
    have ih := itcs_setn L k n (by simpa using h)
    show (itcells r ++ itcs L).set ((k + 1) * 2 + 1) (.int .i64 n) = itcells r ++ itcs (L.set k _)
    rw [List.set_append_right _ _ (by show 2 ≤ _; omega), show (k + 1) * 2 + 1 - (itcells r).length = k * 2 + 1 by show (k + 1) * 2 + 1 - 2 = _; omega, ih]; rfl
theorem row_type {w : World} {base k n g cap m : Nat} {e : TypeId} {xs : List Value} (h : w.ownsRow base e k (.slice (some ⟨g, 0, none⟩) m cap) n xs) : ∃ cur, w.heap[g]? = some (.cells cur e) := by
  rcases h.2 with ⟨e, _⟩ | ⟨g', cap', cur, e, _, h4, _⟩
  · cases e
  · cases e; exact ⟨cur, h4⟩
theorem below_set {B : Nat} {w V : World} (h : Below B w V) {a : Addr} (ha : B ≤ a.block) (x : Value) : Below B w (V.setCell a x) :=
  ⟨h.os, h.tape, h.output, by simp [World.setCell]; exact h.size, fun k hk => (heap_setCell_other V a k x (by omega)).trans (h.block k hk)⟩
/-- what the specification's methods leave: all below lo, and the boxes of calls -/
structure Bo (lo : Nat) (w w' : World) : Prop where
  bl : Below lo w w'
  tk : ∀ (k : Nat) (c : Array Value), w.heap[k]? = some (Obj.cells c 33) → w'.heap[k]? = some (Obj.cells c 33)
theorem Bo.of_below {w V : World} {lo : Nat} (h : Below w.heap.size w V) (hl : lo ≤ w.heap.size) : Bo lo w V :=
  ⟨h.mono hl, fun k c hk => (h.block k (KbC.big hk)).trans hk⟩
theorem Bo.refl (lo : Nat) (w : World) : Bo lo w w := ⟨Below.refl _ _, fun _ _ h => h⟩
theorem Bo.trans {w V U : World} {lo : Nat} (h : Bo lo w V) (k : Bo lo V U) : Bo lo w U := ⟨h.bl.trans k.bl, fun i c e => k.tk i c (h.tk i c e)⟩
theorem Bo.set {w V : World} {lo : Nat} (h : Bo lo w V) {a : Addr} (ha : lo ≤ a.block) (x : Value) {c0 : Array Value} {t : TypeId} (hc : V.heap[a.block]? = some (.cells c0 t)) (ht : t ≠ 33) : Bo lo w (V.setCell a x) :=
  ⟨below_set h.bl ha x, fun k c e => by
    have e2 := h.tk k c e
    have hne : k ≠ a.block := fun q => by
      rw [q, hc] at e2
      injection e2 with e2
      injection e2 with _ e2
      exact ht e2
    exact (heap_setCell_other V a k x hne).trans e2⟩
section
variable {W V : World} {lo b g cap k : Nat} {most : Int} {L C : List Itm} {v v' : Value}
/-- the object behind a store of new items -/
theorem RX.put (h : RX W lo b most L v) (hob : V.heap[b]? = W.heap[b]?) (hl : Bo lo W V) (ho : V.ownsRow lo 57 2 v' C.length (itcs C)) (hne : v'.ownBlock ≠ some b) :
    RX (V.setCell ⟨b, 1, none⟩ v') lo b most C v' ∧ Bo lo W (V.setCell ⟨b, 1, none⟩ v') :=
  ⟨⟨KbC.set (i := 1) (show KbC V b (rrO most v) from hob.trans h.obj) v', row_other ho _ _ hne, h.lob, hne⟩, hl.set h.lob _ (hob.trans h.obj) (by decide)⟩
/-- another instant -/
theorem RX.setU (h : RX W lo b most L (.slice (some ⟨g, 0, none⟩) L.length cap)) (hk : k < L.length) (n : Int) :
    RX (W.setCell ⟨g, k * 2 + 1, none⟩ (.int .i64 n)) lo b most (L.set k ⟨(itA L k).id, n⟩) (.slice (some ⟨g, 0, none⟩) L.length cap) ∧ Bo lo W (W.setCell ⟨g, k * 2 + 1, none⟩ (.int .i64 n)) := by
  have hgb : g ≠ b := fun e => h.ne (by rw [e]; rfl)
  have ho := own_setI h.own (k * 2 + 1) (.int .i64 n)
  rw [itcs_setn L k n hk] at ho
  exact ⟨⟨(heap_setCell_other W ⟨g, k * 2 + 1, none⟩ b _ hgb.symm).trans h.obj, by rw [List.length_set]; exact ho, h.lob, h.ne⟩, (by
    obtain ⟨cur, hc⟩ := row_type h.own
    exact (Bo.refl lo W).set (a := ⟨g, k * 2 + 1, none⟩) (h.own.lt g rfl).1 _ hc (by decide))⟩
end
theorem it_one (w : World) (g : Itm) : ItsAt (w.alloc (itB g)) (some ⟨w.heap.size, 0, none⟩) 1 1 [g] := by
  refine ⟨rfl, Nat.le_refl _, by unfold maxLen; omega, fun _ => ⟨w.heap.size, 0, rfl, (kbc_new w _).big, fun j hj k hk => ?_⟩, fun e => by cases e⟩
  have hj0 : j = 0 := by simp at hj; omega
  subst hj0
  rw [Nat.zero_mul, Nat.zero_add]
  have h : (itcells g)[k]? = some ((itcells g)[k]'(by rw [itcells_len]; exact hk)) := List.getElem?_eq_getElem _
  show _ = (itcells g)[k]?
  rw [h]
  refine (kbc_new w (itB g)).cell ?_
  rw [← Array.getElem?_toList]
  exact h
theorem filI_take {p : Itm → Bool} {l : List Itm} {k : Nat} {g : Itm} (h : k < l.length) (hg : itA l k = g) : (l.take (k + 1)).filter p = (l.take k).filter p ++ if p g = true then [g] else [] := by
  rw [take_it l k h, hg, List.filter_append]
  congr 1
  cases hp : p g
  · rw [if_neg (by decide), List.filter_cons_of_neg (by rw [hp]; decide)]; rfl
  · rw [if_pos rfl, List.filter_cons_of_pos hp]; rfl
theorem itcs_len2 (l : List Itm) (p : Itm → Bool) (k : Nat) (h : l.length ≤ 256) : ((l.take k).filter p).length ≤ 256 := by
  have h1 := List.length_filter_le p (l.take k)
  have h2 : (l.take k).length ≤ l.length := by rw [List.length_take]; omega
  omega
theorem pur_map (L : List Itm) (n : Int) : (L.filter fun r => decide (n < r.un)).map itU = purA (L.map itU) n := by
  unfold purA
  rw [List.filter_map]; rfl
set_option maxHeartbeats 8000000 in
theorem rpurge_k (lo b : Nat) (most : Int) (A B : Ol) (now n d : Int) (w : World) (h : RL w lo b most A) (hlo : lo ≤ w.heap.size) (hlen : A.length ≤ 256) (hn : limI now = n) (hB : purA A n = B) (hd : (A.length : Int) - (B.length : Int) = d) :
    Calls Try.prog 18 #[.pointer (some ⟨b, 0, none⟩), .int .i64 now] w fun e w' => e = .returned (.int .i64 d) ∧ RL w' lo b most B ∧ Bo lo w w' := by
  obtain ⟨L, v, hx, rfl⟩ := h
  rw [List.length_map] at hlen hd
  obtain ⟨P, hP⟩ : ∃ P, L.filter (fun r => decide (n < r.un)) = P := ⟨_, rfl⟩
  have hPB : P.map itU = B := by rw [← hP, pur_map]; exact hB
  have hPl : P.length = B.length := by rw [← hPB, List.length_map]
  have hP2 : P.length ≤ 256 := by
    have := itcs_len2 L (fun r => decide (n < r.un)) L.length hlen
    rw [List.take_length, hP] at this; exact this
  have HPB := Lib.hid hPB
  have HP := Lib.hid hP
  have HN := Lib.hid hn
  have HD := Lib.hid hd
  have HX := Lib.hid hx
  have hbb := hx.obj.big
  obtain ⟨_, c1⟩ := hx.flat
  obtain ⟨ao, cap, rfl, s1, s2, s3⟩ := hx.shape
  have H3 := Lib.hid s3
  have HC1 : Hid (∀ V, Below w.heap.size w V → V.cell? ⟨b, 1, none⟩ = some (.slice ao L.length cap)) := Lib.hid fun V hV => (hV.cell (p := ⟨b, 1, none⟩) hbb).trans c1
  unfold maxLen at s2
  clear hx hn hB hd hP hPB c1 s3
  go_enter Try.func18, Try.ntmps18
  go_wp2_with fail
  go_loopw [5, 6] (fun v iv wr => ∃ (k : Nat) (C : List Itm), k ≤ L.length ∧ iv = .int .i64 k ∧ Hid ((L.take k).filter (fun r => decide (n < r.un)) = C) ∧ Hid (wr.ownsRow w.heap.size 57 2 v C.length (itcs C)) ∧ Hid (Below w.heap.size w wr)) (fun _ iv _ => L.length - (intOf iv).toNat)
  case atStart => exact ⟨0, [], Nat.zero_le _, rfl, Lib.hid rfl, Lib.hid (World.ownsRow_nil _ _ _ _), Lib.hid (Below.refl _ _)⟩
  case round =>
    obtain ⟨k, C, hk, rfl, HC, HW, HB⟩ := hrel
    have c1 := HC1.out _ HB.out
    by_cases hlt : k < L.length
    · obtain ⟨g, rfl, hlg, hgb, hgl, hit, _⟩ := H3.out (by omega)
      have HIt := Lib.hid hit
      have i1 : (k : Int) < (L.length : Int) := by omega
      obtain ⟨⟨u, z⟩, hg⟩ : ∃ q, itA L k = q := ⟨_, rfl⟩
      have HCg : Hid (∀ V, Below w.heap.size w V → V.cell? ⟨b, 1, none⟩ = some (.slice (some ⟨g, 0, none⟩) L.length cap) ∧ V.cell? ⟨g, k * 2, none⟩ = some (.string u) ∧ V.cell? ⟨g, k * 2 + 1, none⟩ = some (.int .i64 z)) := Lib.hid fun V hV => by
        have := (HIt.out.below hV hgl).at_ hlt
        rw [hg] at this
        obtain ⟨a0, a1⟩ := this
        rw [Nat.zero_add] at a0 a1
        exact ⟨HC1.out V hV, a0, a1⟩
      have hft := filI_take (p := fun r => decide (n < r.un)) hlt hg
      rw [HC.out] at hft
      dsimp only at hft
      have hcl : C.length ≤ 256 := by rw [← HC.out]; exact itcs_len2 L _ k hlen
      have HB1 := Lib.hid (HB.out.trans ((Below.refl _ _).drew.mono HB.out.size))
      have HW1 := Lib.hid (ownR_below HW.out (Below.refl _ _).drew)
      have S0 := HCg.out _ HB1.out
      clear hit hg
      cases q : decide (n < z)
      · have HC1' := Lib.hid (show (L.take (k + 1)).filter (fun r => decide (n < r.un)) = C by rw [hft]; rw [if_neg (by rw [q]; decide), List.append_nil])
        clear hft
        go_wp2_with fail
        refine wp_region_held_drew (S := fun V => V.cell? ⟨b, 1, none⟩ = some (.slice (some ⟨g, 0, none⟩) L.length cap) ∧ V.cell? ⟨g, k * 2, none⟩ = some (.string u) ∧ V.cell? ⟨g, k * 2 + 1, none⟩ = some (.int .i64 z)) (by kernel_rfl) (S0) (fun hS => ?_)
        refine wpAnyH_take (i := 0) (oi := { dst := some 19, op := _, type := _, pos := _, after := _, guard := _ }) (v := ?_) rfl (by kernel_rfl) (by kernel_rfl) (by kernel_rfl) (fun _ _ _ h => h) (Or.inl ⟨by rfl, ?_⟩) (by assumption) ?_
        rotate_left
        · intro w hSw
          try dsimp only at hSw
          go_simp
          try with_reducible rfl
        try simp only [Act.put, List.setIfInBounds_toArray, List.set_cons_zero, List.set_cons_succ]
        refine wpAnyH_take (i := 1) (oi := { dst := some 20, op := _, type := _, pos := _, after := _, guard := _ }) (v := ?_) rfl (by kernel_rfl) (by kernel_rfl) (by kernel_rfl) (fun _ _ _ h => h) (Or.inl ⟨by rfl, ?_⟩) (by assumption) ?_
        rotate_left
        · intro w hSw
          try dsimp only at hSw
          go_simp
          try with_reducible rfl
        try simp only [Act.put, List.setIfInBounds_toArray, List.set_cons_zero, List.set_cons_succ]
        refine wpAnyH_take (i := 2) (oi := { dst := some 21, op := _, type := _, pos := _, after := _, guard := _ }) (v := ?_) rfl (by kernel_rfl) (by kernel_rfl) (by kernel_rfl) (fun _ _ _ h => h) (Or.inl ⟨by rfl, ?_⟩) (by assumption) ?_
        rotate_left
        · intro w hSw
          try dsimp only at hSw
          go_simp
          try with_reducible rfl
        try simp only [Act.put, List.setIfInBounds_toArray, List.set_cons_zero, List.set_cons_succ]
        refine wpAnyH_take (i := 3) (oi := { dst := some 22, op := _, type := _, pos := _, after := _, guard := _ }) (v := ?_) rfl (by kernel_rfl) (by kernel_rfl) (by kernel_rfl) (fun _ _ _ h => h) (Or.inl ⟨by rfl, ?_⟩) (by assumption) ?_
        rotate_left
        · intro w hSw
          try dsimp only at hSw
          go_simp
          try with_reducible rfl
        try simp only [Act.put, List.setIfInBounds_toArray, List.set_cons_zero, List.set_cons_succ]
        refine wpAnyH_take (i := 4) (oi := { dst := some 23, op := _, type := _, pos := _, after := _, guard := _ }) (v := ?_) rfl (by kernel_rfl) (by kernel_rfl) (by kernel_rfl) (fun _ _ _ h => h) (Or.inl ⟨by rfl, ?_⟩) (by assumption) ?_
        rotate_left
        · intro w hSw
          try dsimp only at hSw
          go_simp
          try with_reducible rfl
        try simp only [Act.put, List.setIfInBounds_toArray, List.set_cons_zero, List.set_cons_succ]
        refine wpAnyH_take (i := 5) (oi := { dst := some 24, op := _, type := _, pos := _, after := _, guard := _ }) (v := ?_) rfl (by kernel_rfl) (by kernel_rfl) (by kernel_rfl) (fun _ _ _ h => h) (Or.inl ⟨by rfl, ?_⟩) (by assumption) ?_
        rotate_left
        · intro w hSw
          try dsimp only at hSw
          go_simp
          try with_reducible rfl
        try simp only [Act.put, List.setIfInBounds_toArray, List.set_cons_zero, List.set_cons_succ]
        refine wpAnyH_take (i := 6) (oi := { dst := some 25, op := _, type := _, pos := _, after := _, guard := _ }) (v := ?_) rfl (by kernel_rfl) (by kernel_rfl) (by kernel_rfl) (fun _ _ _ h => h) (Or.inl ⟨by rfl, ?_⟩) (by assumption) ?_
        rotate_left
        · intro w hSw
          try dsimp only at hSw
          go_simp
          try with_reducible rfl
        try simp only [Act.put, List.setIfInBounds_toArray, List.set_cons_zero, List.set_cons_succ]
        refine wpAnyH_take (i := 7) (oi := { dst := some 26, op := _, type := _, pos := _, after := _, guard := _ }) (v := ?_) rfl (by kernel_rfl) (by kernel_rfl) (by kernel_rfl) (fun _ _ _ h => h) (Or.inl ⟨by rfl, ?_⟩) (by assumption) ?_
        rotate_left
        · intro w hSw
          try dsimp only at hSw
          go_simp
          try with_reducible rfl
        try simp only [Act.put, List.setIfInBounds_toArray, List.set_cons_zero, List.set_cons_succ]
        refine wpAnyH_take (i := 8) (oi := { dst := some 27, op := _, type := _, pos := _, after := _, guard := _ }) (v := ?_) rfl (by kernel_rfl) (by kernel_rfl) (by kernel_rfl) (fun _ _ _ h => h) (Or.inl ⟨by rfl, ?_⟩) (by assumption) ?_
        rotate_left
        · intro w hSw
          try dsimp only at hSw
          go_simp
          try with_reducible rfl
        try simp only [Act.put, List.setIfInBounds_toArray, List.set_cons_zero, List.set_cons_succ]
        refine wpAnyH_ready (rs := [9]) (by kernel_rfl) (by simp) ?_
        refine AllReadyH.cons rfl (fun K hK => ?_) AllReadyH.nil
        go_simp
        refine (rlim_k now n _ HN.out).mono ?_
        rintro e w' ⟨rfl, rfl⟩
        go_wp2_with fail
        refine hK.out _ _ ?_ (fun hHeld => ?_)
        · exact HCg.out _ HB1.out
        clear hK K
        try simp only [Act.put, List.setIfInBounds_toArray, List.set_cons_zero, List.set_cons_succ]
        refine wpAnyH_take (i := 10) (oi := { dst := some 29, op := _, type := _, pos := _, after := _, guard := _ }) (v := ?_) rfl (by kernel_rfl) (by kernel_rfl) (by kernel_rfl) (fun _ _ _ h => h) (Or.inl ⟨by rfl, ?_⟩) (by assumption) ?_
        rotate_left
        · intro w hSw
          try dsimp only at hSw
          go_simp
          try with_reducible rfl
        try simp only [Act.put, List.setIfInBounds_toArray, List.set_cons_zero, List.set_cons_succ]
        refine wpAnyH_done (by kernel_rfl) ?_ _
        go_wp2_with fail
        go_roundw
        case rel => exact ⟨k + 1, C, by omega, by go_num, HC1', HW1, HB1⟩
        case measure => simp [intOf]; omega
      · have HC1' := Lib.hid (show (L.take (k + 1)).filter (fun r => decide (n < r.un)) = C ++ [(⟨u, z⟩ : Itm)] by rw [hft]; rw [if_pos q])
        clear hft
        go_wp2_with fail
        refine wp_region_held_drew (S := fun V => V.cell? ⟨b, 1, none⟩ = some (.slice (some ⟨g, 0, none⟩) L.length cap) ∧ V.cell? ⟨g, k * 2, none⟩ = some (.string u) ∧ V.cell? ⟨g, k * 2 + 1, none⟩ = some (.int .i64 z)) (by kernel_rfl) (S0) (fun hS => ?_)
        refine wpAnyH_take (i := 0) (oi := { dst := some 19, op := _, type := _, pos := _, after := _, guard := _ }) (v := ?_) rfl (by kernel_rfl) (by kernel_rfl) (by kernel_rfl) (fun _ _ _ h => h) (Or.inl ⟨by rfl, ?_⟩) (by assumption) ?_
        rotate_left
        · intro w hSw
          try dsimp only at hSw
          go_simp
          try with_reducible rfl
        try simp only [Act.put, List.setIfInBounds_toArray, List.set_cons_zero, List.set_cons_succ]
        refine wpAnyH_take (i := 1) (oi := { dst := some 20, op := _, type := _, pos := _, after := _, guard := _ }) (v := ?_) rfl (by kernel_rfl) (by kernel_rfl) (by kernel_rfl) (fun _ _ _ h => h) (Or.inl ⟨by rfl, ?_⟩) (by assumption) ?_
        rotate_left
        · intro w hSw
          try dsimp only at hSw
          go_simp
          try with_reducible rfl
        try simp only [Act.put, List.setIfInBounds_toArray, List.set_cons_zero, List.set_cons_succ]
        refine wpAnyH_take (i := 2) (oi := { dst := some 21, op := _, type := _, pos := _, after := _, guard := _ }) (v := ?_) rfl (by kernel_rfl) (by kernel_rfl) (by kernel_rfl) (fun _ _ _ h => h) (Or.inl ⟨by rfl, ?_⟩) (by assumption) ?_
        rotate_left
        · intro w hSw
          try dsimp only at hSw
          go_simp
          try with_reducible rfl
        try simp only [Act.put, List.setIfInBounds_toArray, List.set_cons_zero, List.set_cons_succ]
        refine wpAnyH_take (i := 3) (oi := { dst := some 22, op := _, type := _, pos := _, after := _, guard := _ }) (v := ?_) rfl (by kernel_rfl) (by kernel_rfl) (by kernel_rfl) (fun _ _ _ h => h) (Or.inl ⟨by rfl, ?_⟩) (by assumption) ?_
        rotate_left
        · intro w hSw
          try dsimp only at hSw
          go_simp
          try with_reducible rfl
        try simp only [Act.put, List.setIfInBounds_toArray, List.set_cons_zero, List.set_cons_succ]
        refine wpAnyH_take (i := 4) (oi := { dst := some 23, op := _, type := _, pos := _, after := _, guard := _ }) (v := ?_) rfl (by kernel_rfl) (by kernel_rfl) (by kernel_rfl) (fun _ _ _ h => h) (Or.inl ⟨by rfl, ?_⟩) (by assumption) ?_
        rotate_left
        · intro w hSw
          try dsimp only at hSw
          go_simp
          try with_reducible rfl
        try simp only [Act.put, List.setIfInBounds_toArray, List.set_cons_zero, List.set_cons_succ]
        refine wpAnyH_take (i := 5) (oi := { dst := some 24, op := _, type := _, pos := _, after := _, guard := _ }) (v := ?_) rfl (by kernel_rfl) (by kernel_rfl) (by kernel_rfl) (fun _ _ _ h => h) (Or.inl ⟨by rfl, ?_⟩) (by assumption) ?_
        rotate_left
        · intro w hSw
          try dsimp only at hSw
          go_simp
          try with_reducible rfl
        try simp only [Act.put, List.setIfInBounds_toArray, List.set_cons_zero, List.set_cons_succ]
        refine wpAnyH_take (i := 6) (oi := { dst := some 25, op := _, type := _, pos := _, after := _, guard := _ }) (v := ?_) rfl (by kernel_rfl) (by kernel_rfl) (by kernel_rfl) (fun _ _ _ h => h) (Or.inl ⟨by rfl, ?_⟩) (by assumption) ?_
        rotate_left
        · intro w hSw
          try dsimp only at hSw
          go_simp
          try with_reducible rfl
        try simp only [Act.put, List.setIfInBounds_toArray, List.set_cons_zero, List.set_cons_succ]
        refine wpAnyH_take (i := 7) (oi := { dst := some 26, op := _, type := _, pos := _, after := _, guard := _ }) (v := ?_) rfl (by kernel_rfl) (by kernel_rfl) (by kernel_rfl) (fun _ _ _ h => h) (Or.inl ⟨by rfl, ?_⟩) (by assumption) ?_
        rotate_left
        · intro w hSw
          try dsimp only at hSw
          go_simp
          try with_reducible rfl
        try simp only [Act.put, List.setIfInBounds_toArray, List.set_cons_zero, List.set_cons_succ]
        refine wpAnyH_take (i := 8) (oi := { dst := some 27, op := _, type := _, pos := _, after := _, guard := _ }) (v := ?_) rfl (by kernel_rfl) (by kernel_rfl) (by kernel_rfl) (fun _ _ _ h => h) (Or.inl ⟨by rfl, ?_⟩) (by assumption) ?_
        rotate_left
        · intro w hSw
          try dsimp only at hSw
          go_simp
          try with_reducible rfl
        try simp only [Act.put, List.setIfInBounds_toArray, List.set_cons_zero, List.set_cons_succ]
        refine wpAnyH_ready (rs := [9]) (by kernel_rfl) (by simp) ?_
        refine AllReadyH.cons rfl (fun K hK => ?_) AllReadyH.nil
        go_simp
        refine (rlim_k now n _ HN.out).mono ?_
        rintro e w' ⟨rfl, rfl⟩
        go_wp2_with fail
        refine hK.out _ _ ?_ (fun hHeld => ?_)
        · exact HCg.out _ HB1.out
        clear hK K
        try simp only [Act.put, List.setIfInBounds_toArray, List.set_cons_zero, List.set_cons_succ]
        refine wpAnyH_take (i := 10) (oi := { dst := some 29, op := _, type := _, pos := _, after := _, guard := _ }) (v := ?_) rfl (by kernel_rfl) (by kernel_rfl) (by kernel_rfl) (fun _ _ _ h => h) (Or.inl ⟨by rfl, ?_⟩) (by assumption) ?_
        rotate_left
        · intro w hSw
          try dsimp only at hSw
          go_simp
          try with_reducible rfl
        try simp only [Act.put, List.setIfInBounds_toArray, List.set_cons_zero, List.set_cons_succ]
        refine wpAnyH_done (by kernel_rfl) ?_ _
        clear S0 c1
        obtain ⟨c1, d0, d1⟩ := HCg.out _ HB1.out
        have HO4 := Lib.hid (ownR_below HW1.out (box_below wr.drew (itB ⟨u, z⟩)))
        have HK4 := Lib.hid (it_one wr.drew ⟨u, z⟩)
        have HB4 := Lib.hid (HB1.out.trans ((box_below wr.drew (itB ⟨u, z⟩)).mono HB1.out.size))
        unfold itB itcells at HO4 HK4 HB4
        go_wp2_with (at_builtin; refine app_its _ HO4.out (.tmp 30) (.tmp 38) (some ⟨wr.drew.heap.size, 0, none⟩) 1 1 [⟨u, z⟩] ?_ ?_ ?_ ?_ ?_ ?_ ?_ ?_; exact rfl; exact rfl; exact rfl; exact rfl; exact HK4.out; omega; exact HB4.out.size; intro v5 w5 hown5 hb5)
        rw [← itcs_app] at hown5
        have HW5 := Lib.hid (show w5.ownsRow w.heap.size 57 2 v5 (C ++ [(⟨u, z⟩ : Itm)]).length (itcs (C ++ [(⟨u, z⟩ : Itm)])) by rw [List.length_append]; exact hown5)
        have HB5 := Lib.hid (HB4.out.trans hb5)
        clear hown5 hb5 c1 d0 d1
        go_wp2_with fail
        go_roundw
        case rel => exact ⟨k + 1, C ++ [(⟨u, z⟩ : Itm)], by omega, by go_num, HC1', HW5, HB5⟩
        case measure => simp [intOf]; omega
    · obtain rfl : k = L.length := by omega
      have HE := Lib.hid (show C = P by rw [← HP.out, ← HC.out, List.take_length])
      have hcl : C.length = P.length := by rw [HE.out]
      obtain ⟨bo, dap, e1, hat⟩ := its_of_owns HW.out
      have hat := hat.2.1
      have hnb := row_far HW.out hbb
      have HQ := Lib.hid (HX.out.put (HB.out.block b hbb) (Bo.of_below HB.out hlo) (row_mono HW.out hlo) hnb)
      have f1 : wr.frozen? ⟨b, 1, none⟩ = false := (HX.out.step HB.out).frz 1
      subst e1
      have hw1 : IntKind.i64.wrap ((L.length : Int) - (C.length : Int)) = (L.length : Int) - (C.length : Int) := IntWalk.i64_in _ (by omega)
      have HD2 := Lib.hid (show (L.length : Int) - (C.length : Int) = d by rw [hcl, hPl]; exact HD.out)
      clear hat hnb hcl hPl hP2
      go_wp2_with fail
      go_ret
      refine ⟨by rw [← HD2.out]; rfl, ⟨C, _, HQ.out.1, ?_⟩, HQ.out.2⟩
      rw [HE.out]; exact HPB.out.symm
/-- 'list = append(list, item{id, until})' -/
theorem push_it {ops : Array Oper} {rest : List Oper} {o : Oper} {a : Act} {Q : Exit → Act → World → Prop} (wr : World) {lo : Nat} {v : Value} {n : Nat} {xs : List Value} (hown : wr.ownsRow lo 57 2 v n xs) (s x : Operand) (u : ByteArray) (t : Int) (hgd : o.guard = none)
    (ho : o.op = .call { callee := .builtin .append, args := #[s, x], argTypes := #[52, 52] })
    (hs : a.eval s = v) (hx : a.eval x = .slice (some ⟨wr.heap.size, 0, none⟩) 1 1) (hn : n + 1 ≤ 1000000000) (hlo : lo ≤ wr.heap.size) {W1 : World} (hW : W1 = wr.alloc (.cells #[.string u, .int .i64 t] 57))
    (h : ∀ q cp w', w'.ownsRow lo 57 2 (.slice (some ⟨q, 0, none⟩) (n + 1) cp) (n + 1) (xs ++ [.string u, .int .i64 t]) → (wr.alloc (.cells #[.string u, .int .i64 t] 57)).grownBy w' v.ownBlock → (v.ownBlock = some q ∨ wr.heap.size ≤ q) → wpList Try.prog ops Q rest (a.put o.dst (.slice (some ⟨q, 0, none⟩) (n + 1) cp)) w') :
    wpList Try.prog ops Q (o :: rest) a W1 := by
  subst hW
  obtain ⟨i0, hi, hz0, hz1, hz2⟩ := it_parts info_it
  refine wpList_append_lies _ hgd s x 52 ho lo 57 i0 (.agg #[.string ⟨#[]⟩, .int .i64 0]) 2 24 Try.underlying52 hi hz0 hz1 hz2 rfl (by decide) v n xs hs (hown.alloc _) ⟨wr.heap.size, 0, none⟩ 1 1 [.string u, .int .i64 t] hx rfl
    (fun j z hj => ?_) (by intro z hz; simp at hz; rcases hz with rfl | rfl <;> rfl) (by decide) (by unfold maxLen; omega) (by omega) (by rw [World.size_alloc]; omega) (wr.heap.size + 1) (World.size_alloc _ _) ?_
  · rw [Go.WideShapes.add_plain, Nat.zero_add]
    exact (kbc_new wr (.cells #[.string u, .int .i64 t] 57)).cell (by rw [← Array.getElem?_toList]; exact hj)
  intro q cp w' h1 h2 h3 _
  exact h q cp w' h1 h2 (h3.imp id fun e => by omega)
end Go.Proofs.Yteoaekjhicphlaa
