/-
  Proved: identitylaw15.CsnTexts returns true for every two numbers and every string (the tied card). No condition beyond the row's own.
-/
import Derived.Test.YtcnhkoijphfibaaDoorCsnLaws
import Derived.Test.YtcnhkoijphfibaaDoorCsnR5
import Derived.Test.YtcnhkoijphfibaaDoorCsnF6
set_option linter.unusedVariables false
set_option linter.unusedSimpArgs false
set_option linter.unnecessarySimpa false
namespace Go.Proofs.YtcnhkoijphfibaaDoor
open Go.ChangeShapes Go.WideShapes Go.ChangeAt Go.RowKit Go.PlainAid
open Go.ChangeMaps (open_string shut_string)

structure BgT (w : World) (A B : Obj) (V : World) : Prop where
  low : Below w.heap.size w V
  ok : WOk V
  k0 : KbC V w.heap.size A
  k1 : KbC V (w.heap.size + 1) B
theorem BgT.step {w V X : World} {A B : Obj} (h : BgT w A B V) (hb : Below V.heap.size V X) : BgT w A B X :=
  ⟨h.low.trans (hb.mono h.low.size), h.ok.below hb, h.k0.step hb, h.k1.step hb⟩
theorem bgt_new (w : World) (A B : Obj) (ho : WOk w) : BgT w A B ((w.alloc A).alloc B) := by
  have h1 := kbc_new (w.alloc A) B
  rw [World.size_alloc] at h1
  have hb := below_allocs [A, B] _ _ _ (Below.refl w.heap.size w) (Nat.le_refl _)
  exact ⟨hb, ho.below hb, (kbc_new w A).step (box_below _ _), h1⟩
theorem fmtS_list {c : Cn} (h : Vld c) : (fmtS c).data.toList = fmtL c := by unfold fmtS; rw [if_pos h]
theorem fmtS_of {s : ByteArray} (h : parEC s.data.toList = 0) : fmtS (parVC s.data.toList) = s := by
  obtain ⟨h1, h2⟩ := parEC_ok h
  unfold fmtS
  rw [if_pos h1, h2]
theorem sgn_cmp {a b : Cn} (ha : Vld a) (hb : Vld b) : sgnC (fmtS a) (fmtS b) = cmpC a b := by
  unfold sgnC
  rw [Lib.toList_data, Lib.toList_data, fmtS_list ha, fmtS_list hb]
  rcases cmpC_cases a b with ⟨h, e⟩ | ⟨h, e⟩ | ⟨h, e⟩
  · rw [if_pos (fmt_less ha hb h), e]
  · have h1 := fmt_less hb ha h
    have h2 := blc_asymm _ _ h1
    rw [if_neg (by rw [h2]; decide), if_neg (fun k => by rw [eq_of_beq k, blc_self] at h1; cases h1), e]
  · subst h
    rw [if_neg (by rw [blc_self]; decide), if_pos (beq_self_eq_true _), e]
theorem rparse_k (s : ByteArray) (x y z q : Int) (w : World) (hs : s.size ≤ 1000000) (hv : parVC s.data.toList = (x, y, z)) (he : parEC s.data.toList = q) :
    Calls Tryd.prog 17 #[.string s] w fun e w' => e = .returned (.tuple #[.agg #[.int .i64 x, .int .i64 y, .int .i64 z], .int .i64 q]) ∧ Below w.heap.size w w' := by
  have := rparse_s s w hs
  rw [hv, he] at this
  exact this
theorem rformat_k (a b c : Int) (t : ByteArray) (w : World) (ht : fmtS (a, b, c) = t) :
    Calls Tryd.prog 19 #[.agg #[.int .i64 a, .int .i64 b, .int .i64 c]] w fun e w' => e = .returned (.string t) ∧ Below w.heap.size w w' := by
  subst ht; exact rformat_s (a, b, c) w
theorem sign_k (a b : ByteArray) (k : Int) (w : World) (hk : sgnC a b = k) :
    Calls Tryd.prog 20 #[.string a, .string b] w fun e w' => e = .returned (.int .i64 k) ∧ w = w' := by subst hk; exact sign_s a b w
set_option maxRecDepth 100000 in
set_option maxHeartbeats 16000000 in
theorem texts_s (a : Cn) (b : Cn) (s : ByteArray) (w : World) (ho : WOk w) :
    Calls Tryd.prog 4 #[cnV a, cnV b, .string s] w fun e w' => e = .returned (.bool true) ∧ Below w.heap.size w w' := by
  obtain ⟨a0, a1, a2⟩ := a
  obtain ⟨b0, b1, b2⟩ := b
  show Calls _ _ #[.agg #[.int .i64 a0, .int .i64 a1, .int .i64 a2], .agg #[.int .i64 b0, .int .i64 b1, .int .i64 b2], .string s] w _
  have HG := Lib.hid (bgt_new w (.cells #[.int .i64 a0, .int .i64 a1, .int .i64 a2] 23) (.cells #[.int .i64 b0, .int .i64 b1, .int .i64 b2] 23) ho)
  clear ho
  by_cases hs : s.size ≤ 300
  · have d0 : ¬ (300 : Int) < (s.size : Int) := by omega
    have d00 : decide ((300 : Int) < (s.size : Int)) = false := decide_eq_false d0
    obtain ⟨⟨x0, x1, x2⟩, hx⟩ : ∃ p, parVC s.data.toList = p := ⟨_, rfl⟩
    obtain ⟨e, he⟩ : ∃ e, parEC s.data.toList = e := ⟨_, rfl⟩
    have HFm := Lib.hid (fmtS_of (s := s))
    rw [hx, he] at HFm
    have HX := Lib.hid hx
    have HE := Lib.hid he
    obtain ⟨ta, hta⟩ : ∃ t, fmtS (a0, a1, a2) = t := ⟨_, rfl⟩
    obtain ⟨tb, htb⟩ : ∃ t, fmtS (b0, b1, b2) = t := ⟨_, rfl⟩
    have HTA := Lib.hid hta
    have HTB := Lib.hid htb
    have HPb := Lib.hid (fun h => parEC_fmt (c := (a0, a1, a2)) h)
    have HPl := Lib.hid (fun h => fmtS_list (c := (a0, a1, a2)) h)
    have HSg := Lib.hid (fun h k => sgn_cmp (a := (a0, a1, a2)) (b := (b0, b1, b2)) h k)
    rw [hta] at HPl HSg
    rw [htb] at HSg
    have HTs := Lib.hid (show ta.size ≤ 1000000 by
      rw [← hta]
      unfold fmtS
      split
      · show (fmtL (a0, a1, a2)).toArray.size ≤ 1000000
        rw [List.size_toArray, fmtL_len]; omega
      · exact Nat.zero_le _)
    have qe : (e != e) = false := bne_self_eq_false _
    have qa : (ta.toList != ta.toList) = false := bne_self_eq_false _
    have qs : (s.toList != s.toList) = false := bne_self_eq_false _
    have qa2 : (ta.toList == ta.toList) = true := beq_self_eq_true _
    have qs2 : (s.toList == s.toList) = true := beq_self_eq_true _
    clear hx he hta htb
    go_enter Tryd.func4, Tryd.ntmps4
    go_wp2_with fail
    generalize (w.alloc (.cells #[.int .i64 a0, .int .i64 a1, .int .i64 a2] 23)).alloc (.cells #[.int .i64 b0, .int .i64 b1, .int .i64 b2] 23) = W0 at HG ⊢
    refine (parse_k s x0 x1 x2 e _ (by omega) HG.out.ok.1 HX.out HE.out).mono ?_
    rintro _ wa ⟨rfl, hb⟩
    have hb2 := box_below wa (.cells #[.int .i64 x0, .int .i64 x1, .int .i64 x2] 23)
    have HG := Lib.hid ((HG.out.step hb).step hb2)
    have KX : Hid (KbC (wa.alloc (.cells #[.int .i64 x0, .int .i64 x1, .int .i64 x2] 23)) wa.heap.size (.cells #[.int .i64 x0, .int .i64 x1, .int .i64 x2] 23)) := Lib.hid (kbc_new _ _)
    clear hb hb2
    go_wp2_with fail
    generalize wa.alloc (.cells #[.int .i64 x0, .int .i64 x1, .int .i64 x2] 23) = W1 at HG KX ⊢
    refine (rparse_k s x0 x1 x2 e _ (by omega) HX.out HE.out).mono ?_
    rintro _ wb ⟨rfl, hb⟩
    have hb2 := box_below wb (.cells #[.int .i64 x0, .int .i64 x1, .int .i64 x2] 23)
    have HG := Lib.hid ((HG.out.step hb).step hb2)
    have KX := Lib.hid ((KX.out.step hb).step hb2)
    have KY : Hid (KbC (wb.alloc (.cells #[.int .i64 x0, .int .i64 x1, .int .i64 x2] 23)) wb.heap.size (.cells #[.int .i64 x0, .int .i64 x1, .int .i64 x2] 23)) := Lib.hid (kbc_new _ _)
    clear hb hb2
    go_wp2_with fail
    generalize wb.alloc (.cells #[.int .i64 x0, .int .i64 x1, .int .i64 x2] 23) = W2 at HG KX KY ⊢
    have HC := Lib.hid (And.intro (HG.out.step (Below.refl _ _).drew) (And.intro (KX.out.step (Below.refl _ _).drew) (KY.out.step (Below.refl _ _).drew)))
    have HSt := Lib.hid (show ∀ V : World, (BgT w (.cells #[.int .i64 a0, .int .i64 a1, .int .i64 a2] 23) (.cells #[.int .i64 b0, .int .i64 b1, .int .i64 b2] 23) V ∧ KbC V wa.heap.size (.cells #[.int .i64 x0, .int .i64 x1, .int .i64 x2] 23) ∧ KbC V wb.heap.size (.cells #[.int .i64 x0, .int .i64 x1, .int .i64 x2] 23)) → (fun V => V.cell? ⟨w.heap.size, 0, none⟩ = some (.int .i64 a0) ∧ V.cell? ⟨w.heap.size, 1, none⟩ = some (.int .i64 a1) ∧ V.cell? ⟨w.heap.size, 2, none⟩ = some (.int .i64 a2) ∧ V.cell? ⟨w.heap.size + 1, 0, none⟩ = some (.int .i64 b0) ∧ V.cell? ⟨w.heap.size + 1, 1, none⟩ = some (.int .i64 b1) ∧ V.cell? ⟨w.heap.size + 1, 2, none⟩ = some (.int .i64 b2) ∧ V.cell? ⟨wa.heap.size, 0, none⟩ = some (.int .i64 x0) ∧ V.cell? ⟨wa.heap.size, 1, none⟩ = some (.int .i64 x1) ∧ V.cell? ⟨wa.heap.size, 2, none⟩ = some (.int .i64 x2) ∧ V.cell? ⟨wb.heap.size, 0, none⟩ = some (.int .i64 x0) ∧ V.cell? ⟨wb.heap.size, 1, none⟩ = some (.int .i64 x1) ∧ V.cell? ⟨wb.heap.size, 2, none⟩ = some (.int .i64 x2) ∧ Hid (BgT w (.cells #[.int .i64 a0, .int .i64 a1, .int .i64 a2] 23) (.cells #[.int .i64 b0, .int .i64 b1, .int .i64 b2] 23) V ∧ KbC V wa.heap.size (.cells #[.int .i64 x0, .int .i64 x1, .int .i64 x2] 23) ∧ KbC V wb.heap.size (.cells #[.int .i64 x0, .int .i64 x1, .int .i64 x2] 23))) V from fun V h => ⟨h.1.k0.cell rfl, h.1.k0.cell rfl, h.1.k0.cell rfl, h.1.k1.cell rfl, h.1.k1.cell rfl, h.1.k1.cell rfl, h.2.1.cell rfl, h.2.1.cell rfl, h.2.1.cell rfl, h.2.2.cell rfl, h.2.2.cell rfl, h.2.2.cell rfl, Lib.hid h⟩)
    have S0 := HSt.out _ HC.out
    clear HG KX KY
    by_cases he0 : e = 0
    · have q1 : (e == 0) = true := by rw [he0]; rfl
      have HFs := Lib.hid (HFm.out he0)
      clear he0
      refine wp_region_held_drew (S := fun V => V.cell? ⟨w.heap.size, 0, none⟩ = some (.int .i64 a0) ∧ V.cell? ⟨w.heap.size, 1, none⟩ = some (.int .i64 a1) ∧ V.cell? ⟨w.heap.size, 2, none⟩ = some (.int .i64 a2) ∧ V.cell? ⟨w.heap.size + 1, 0, none⟩ = some (.int .i64 b0) ∧ V.cell? ⟨w.heap.size + 1, 1, none⟩ = some (.int .i64 b1) ∧ V.cell? ⟨w.heap.size + 1, 2, none⟩ = some (.int .i64 b2) ∧ V.cell? ⟨wa.heap.size, 0, none⟩ = some (.int .i64 x0) ∧ V.cell? ⟨wa.heap.size, 1, none⟩ = some (.int .i64 x1) ∧ V.cell? ⟨wa.heap.size, 2, none⟩ = some (.int .i64 x2) ∧ V.cell? ⟨wb.heap.size, 0, none⟩ = some (.int .i64 x0) ∧ V.cell? ⟨wb.heap.size, 1, none⟩ = some (.int .i64 x1) ∧ V.cell? ⟨wb.heap.size, 2, none⟩ = some (.int .i64 x2) ∧ Hid (BgT w (.cells #[.int .i64 a0, .int .i64 a1, .int .i64 a2] 23) (.cells #[.int .i64 b0, .int .i64 b1, .int .i64 b2] 23) V ∧ KbC V wa.heap.size (.cells #[.int .i64 x0, .int .i64 x1, .int .i64 x2] 23) ∧ KbC V wb.heap.size (.cells #[.int .i64 x0, .int .i64 x1, .int .i64 x2] 23))) (by kernel_rfl) (S0) (fun hS => ?_)
      refine wpAnyH_take (i := 0) (oi := { dst := some 27, op := _, type := _, pos := _, after := _, guard := _ }) (v := ?_) rfl (by kernel_rfl) (by kernel_rfl) (by kernel_rfl) (fun _ _ _ h => h) (Or.inl ⟨by rfl, ?_⟩) (by assumption) ?_
      rotate_left
      · intro w hSw
        try dsimp only at hSw
        go_simp
        try with_reducible rfl
      try simp only [Act.put, List.setIfInBounds_toArray, List.set_cons_zero, List.set_cons_succ]
      refine wpAnyH_take (i := 1) (oi := { dst := some 28, op := _, type := _, pos := _, after := _, guard := _ }) (v := ?_) rfl (by kernel_rfl) (by kernel_rfl) (by kernel_rfl) (fun _ _ _ h => h) (Or.inl ⟨by rfl, ?_⟩) (by assumption) ?_
      rotate_left
      · intro w hSw
        try dsimp only at hSw
        go_simp
        try with_reducible rfl
      try simp only [Act.put, List.setIfInBounds_toArray, List.set_cons_zero, List.set_cons_succ]
      refine wpAnyH_take (i := 2) (oi := { dst := some 29, op := _, type := _, pos := _, after := _, guard := _ }) (v := ?_) rfl (by kernel_rfl) (by kernel_rfl) (by kernel_rfl) (fun _ _ _ h => h) (Or.inl ⟨by rfl, ?_⟩) (by assumption) ?_
      rotate_left
      · intro w hSw
        try dsimp only at hSw
        go_simp
        try with_reducible rfl
      try simp only [Act.put, List.setIfInBounds_toArray, List.set_cons_zero, List.set_cons_succ]
      refine wpAnyH_take (i := 3) (oi := { dst := some 30, op := _, type := _, pos := _, after := _, guard := _ }) (v := ?_) rfl (by kernel_rfl) (by kernel_rfl) (by kernel_rfl) (fun _ _ _ h => h) (Or.inl ⟨by rfl, ?_⟩) (by assumption) ?_
      rotate_left
      · intro w hSw
        try dsimp only at hSw
        go_simp
        try with_reducible rfl
      try simp only [Act.put, List.setIfInBounds_toArray, List.set_cons_zero, List.set_cons_succ]
      refine wpAnyH_take (i := 4) (oi := { dst := some 31, op := _, type := _, pos := _, after := _, guard := _ }) (v := ?_) rfl (by kernel_rfl) (by kernel_rfl) (by kernel_rfl) (fun _ _ _ h => h) (Or.inl ⟨by rfl, ?_⟩) (by assumption) ?_
      rotate_left
      · intro w hSw
        try dsimp only at hSw
        go_simp
        try with_reducible rfl
      try simp only [Act.put, List.setIfInBounds_toArray, List.set_cons_zero, List.set_cons_succ]
      refine wpAnyH_take (i := 5) (oi := { dst := some 32, op := _, type := _, pos := _, after := _, guard := _ }) (v := ?_) rfl (by kernel_rfl) (by kernel_rfl) (by kernel_rfl) (fun _ _ _ h => h) (Or.inl ⟨by rfl, ?_⟩) (by assumption) ?_
      rotate_left
      · intro w hSw
        try dsimp only at hSw
        go_simp
        try with_reducible rfl
      try simp only [Act.put, List.setIfInBounds_toArray, List.set_cons_zero, List.set_cons_succ]
      refine wpAnyH_take (i := 6) (oi := { dst := some 33, op := _, type := _, pos := _, after := _, guard := _ }) (v := ?_) rfl (by kernel_rfl) (by kernel_rfl) (by kernel_rfl) (fun _ _ _ h => h) (Or.inl ⟨by rfl, ?_⟩) (by assumption) ?_
      rotate_left
      · intro w hSw
        try dsimp only at hSw
        go_simp
        try with_reducible rfl
      try simp only [Act.put, List.setIfInBounds_toArray, List.set_cons_zero, List.set_cons_succ]
      refine wpAnyH_take (i := 7) (oi := { dst := some 34, op := _, type := _, pos := _, after := _, guard := _ }) (v := ?_) rfl (by kernel_rfl) (by kernel_rfl) (by kernel_rfl) (fun _ _ _ h => h) (Or.inl ⟨by rfl, ?_⟩) (by assumption) ?_
      rotate_left
      · intro w hSw
        try dsimp only at hSw
        go_simp
        try with_reducible rfl
      try simp only [Act.put, List.setIfInBounds_toArray, List.set_cons_zero, List.set_cons_succ]
      refine wpAnyH_take (i := 8) (oi := { dst := some 35, op := _, type := _, pos := _, after := _, guard := _ }) (v := ?_) rfl (by kernel_rfl) (by kernel_rfl) (by kernel_rfl) (fun _ _ _ h => h) (Or.inl ⟨by rfl, ?_⟩) (by assumption) ?_
      rotate_left
      · intro w hSw
        try dsimp only at hSw
        go_simp
        try with_reducible rfl
      try simp only [Act.put, List.setIfInBounds_toArray, List.set_cons_zero, List.set_cons_succ]
      refine wpAnyH_take (i := 9) (oi := { dst := some 36, op := _, type := _, pos := _, after := _, guard := _ }) (v := ?_) rfl (by kernel_rfl) (by kernel_rfl) (by kernel_rfl) (fun _ _ _ h => h) (Or.inl ⟨by rfl, ?_⟩) (by assumption) ?_
      rotate_left
      · intro w hSw
        try dsimp only at hSw
        go_simp
        try with_reducible rfl
      try simp only [Act.put, List.setIfInBounds_toArray, List.set_cons_zero, List.set_cons_succ]
      refine wpAnyH_take (i := 10) (oi := { dst := some 37, op := _, type := _, pos := _, after := _, guard := _ }) (v := ?_) rfl (by kernel_rfl) (by kernel_rfl) (by kernel_rfl) (fun _ _ _ h => h) (Or.inl ⟨by rfl, ?_⟩) (by assumption) ?_
      rotate_left
      · intro w hSw
        try dsimp only at hSw
        go_simp
        try with_reducible rfl
      try simp only [Act.put, List.setIfInBounds_toArray, List.set_cons_zero, List.set_cons_succ]
      refine wpAnyH_take (i := 11) (oi := { dst := some 38, op := _, type := _, pos := _, after := _, guard := _ }) (v := ?_) rfl (by kernel_rfl) (by kernel_rfl) (by kernel_rfl) (fun _ _ _ h => h) (Or.inl ⟨by rfl, ?_⟩) (by assumption) ?_
      rotate_left
      · intro w hSw
        try dsimp only at hSw
        go_simp
        try with_reducible rfl
      try simp only [Act.put, List.setIfInBounds_toArray, List.set_cons_zero, List.set_cons_succ]
      refine wpAnyH_take (i := 12) (oi := { dst := some 39, op := _, type := _, pos := _, after := _, guard := _ }) (v := ?_) rfl (by kernel_rfl) (by kernel_rfl) (by kernel_rfl) (fun _ _ _ h => h) (Or.inl ⟨by rfl, ?_⟩) (by assumption) ?_
      rotate_left
      · intro w hSw
        try dsimp only at hSw
        go_simp
        try with_reducible rfl
      try simp only [Act.put, List.setIfInBounds_toArray, List.set_cons_zero, List.set_cons_succ]
      refine wpAnyH_take (i := 14) (oi := { dst := some 41, op := _, type := _, pos := _, after := _, guard := _ }) (v := ?_) rfl (by kernel_rfl) (by kernel_rfl) (by kernel_rfl) (fun _ _ _ h => h) (Or.inl ⟨by rfl, ?_⟩) (by assumption) ?_
      rotate_left
      · intro w hSw
        try dsimp only at hSw
        go_simp
        try with_reducible rfl
      try simp only [Act.put, List.setIfInBounds_toArray, List.set_cons_zero, List.set_cons_succ]
      refine wpAnyH_ready (rs := [13]) (by kernel_rfl) (by simp) ?_
      refine AllReadyH.cons rfl (fun K hK => ?_) AllReadyH.nil
      go_simp
      refine (format_k x0 x1 x2 s _ HC.out.1.ok.2 HFs.out).mono ?_
      rintro _ v1 ⟨rfl, hb⟩
      have HC := Lib.hid (And.intro (HC.out.1.step hb) (And.intro (HC.out.2.1.step hb) (HC.out.2.2.step hb)))
      clear hb
      go_wp2_with fail
      refine hK.out _ _ ?_ (fun hHeld => ?_)
      · exact HSt.out _ HC.out
      clear hK K
      try simp only [Act.put, List.setIfInBounds_toArray, List.set_cons_zero, List.set_cons_succ]
      refine wpAnyH_take (i := 15) (oi := { dst := some 42, op := _, type := _, pos := _, after := _, guard := _ }) (v := ?_) rfl (by kernel_rfl) (by kernel_rfl) (by kernel_rfl) (fun _ _ _ h => h) (Or.inl ⟨by rfl, ?_⟩) (by assumption) ?_
      rotate_left
      · intro w hSw
        try dsimp only at hSw
        go_simp
        try with_reducible rfl
      try simp only [Act.put, List.setIfInBounds_toArray, List.set_cons_zero, List.set_cons_succ]
      refine wpAnyH_take (i := 16) (oi := { dst := some 43, op := _, type := _, pos := _, after := _, guard := _ }) (v := ?_) rfl (by kernel_rfl) (by kernel_rfl) (by kernel_rfl) (fun _ _ _ h => h) (Or.inl ⟨by rfl, ?_⟩) (by assumption) ?_
      rotate_left
      · intro w hSw
        try dsimp only at hSw
        go_simp
        try with_reducible rfl
      try simp only [Act.put, List.setIfInBounds_toArray, List.set_cons_zero, List.set_cons_succ]
      refine wpAnyH_take (i := 17) (oi := { dst := some 44, op := _, type := _, pos := _, after := _, guard := _ }) (v := ?_) rfl (by kernel_rfl) (by kernel_rfl) (by kernel_rfl) (fun _ _ _ h => h) (Or.inl ⟨by rfl, ?_⟩) (by assumption) ?_
      rotate_left
      · intro w hSw
        try dsimp only at hSw
        go_simp
        try with_reducible rfl
      try simp only [Act.put, List.setIfInBounds_toArray, List.set_cons_zero, List.set_cons_succ]
      refine wpAnyH_take (i := 18) (oi := { dst := some 45, op := _, type := _, pos := _, after := _, guard := _ }) (v := ?_) rfl (by kernel_rfl) (by kernel_rfl) (by kernel_rfl) (fun _ _ _ h => h) (Or.inl ⟨by rfl, ?_⟩) (by assumption) ?_
      rotate_left
      · intro w hSw
        try dsimp only at hSw
        go_simp
        try with_reducible rfl
      try simp only [Act.put, List.setIfInBounds_toArray, List.set_cons_zero, List.set_cons_succ]
      refine wpAnyH_take (i := 19) (oi := { dst := some 46, op := _, type := _, pos := _, after := _, guard := _ }) (v := ?_) rfl (by kernel_rfl) (by kernel_rfl) (by kernel_rfl) (fun _ _ _ h => h) (Or.inl ⟨by rfl, ?_⟩) (by assumption) ?_
      rotate_left
      · intro w hSw
        try dsimp only at hSw
        go_simp
        try with_reducible rfl
      try simp only [Act.put, List.setIfInBounds_toArray, List.set_cons_zero, List.set_cons_succ]
      refine wpAnyH_take (i := 21) (oi := { dst := some 48, op := _, type := _, pos := _, after := _, guard := _ }) (v := ?_) rfl (by kernel_rfl) (by kernel_rfl) (by kernel_rfl) (fun _ _ _ h => h) (Or.inl ⟨by rfl, ?_⟩) (by assumption) ?_
      rotate_left
      · intro w hSw
        try dsimp only at hSw
        go_simp
        try with_reducible rfl
      try simp only [Act.put, List.setIfInBounds_toArray, List.set_cons_zero, List.set_cons_succ]
      refine wpAnyH_ready (rs := [20]) (by kernel_rfl) (by simp) ?_
      refine AllReadyH.cons rfl (fun K hK => ?_) AllReadyH.nil
      go_simp
      refine (format_k a0 a1 a2 ta _ HC.out.1.ok.2 HTA.out).mono ?_
      rintro _ v2 ⟨rfl, hb⟩
      have HC := Lib.hid (And.intro (HC.out.1.step hb) (And.intro (HC.out.2.1.step hb) (HC.out.2.2.step hb)))
      clear hb
      go_wp2_with fail
      refine hK.out _ _ ?_ (fun hHeld => ?_)
      · exact HSt.out _ HC.out
      clear hK K
      try simp only [Act.put, List.setIfInBounds_toArray, List.set_cons_zero, List.set_cons_succ]
      refine wpAnyH_ready (rs := [22]) (by kernel_rfl) (by simp) ?_
      refine AllReadyH.cons rfl (fun K hK => ?_) AllReadyH.nil
      go_simp
      refine (rformat_k a0 a1 a2 ta _ HTA.out).mono ?_
      rintro _ v3 ⟨rfl, hb⟩
      have HC := Lib.hid (And.intro (HC.out.1.step hb) (And.intro (HC.out.2.1.step hb) (HC.out.2.2.step hb)))
      clear hb
      go_wp2_with fail
      refine hK.out _ _ ?_ (fun hHeld => ?_)
      · exact HSt.out _ HC.out
      clear hK K
      try simp only [Act.put, List.setIfInBounds_toArray, List.set_cons_zero, List.set_cons_succ]
      refine wpAnyH_take (i := 23) (oi := { dst := some 50, op := _, type := _, pos := _, after := _, guard := _ }) (v := ?_) rfl (by kernel_rfl) (by kernel_rfl) (by kernel_rfl) (fun _ _ _ h => h) (Or.inl ⟨by rfl, ?_⟩) (by assumption) ?_
      rotate_left
      · intro w hSw
        try dsimp only at hSw
        go_simp
        try with_reducible rfl
      try simp only [Act.put, List.setIfInBounds_toArray, List.set_cons_zero, List.set_cons_succ]
      refine wpAnyH_take (i := 24) (oi := { dst := some 51, op := _, type := _, pos := _, after := _, guard := _ }) (v := ?_) rfl (by kernel_rfl) (by kernel_rfl) (by kernel_rfl) (fun _ _ _ h => h) (Or.inl ⟨by rfl, ?_⟩) (by assumption) ?_
      rotate_left
      · intro w hSw
        try dsimp only at hSw
        go_simp
        try with_reducible rfl
      try simp only [Act.put, List.setIfInBounds_toArray, List.set_cons_zero, List.set_cons_succ]
      refine wpAnyH_take (i := 25) (oi := { dst := some 52, op := _, type := _, pos := _, after := _, guard := _ }) (v := ?_) rfl (by kernel_rfl) (by kernel_rfl) (by kernel_rfl) (fun _ _ _ h => h) (Or.inl ⟨by rfl, ?_⟩) (by assumption) ?_
      rotate_left
      · intro w hSw
        try dsimp only at hSw
        go_simp
        try with_reducible rfl
      try simp only [Act.put, List.setIfInBounds_toArray, List.set_cons_zero, List.set_cons_succ]
      refine wpAnyH_ready (rs := [26]) (by kernel_rfl) (by simp) ?_
      refine AllReadyH.cons rfl (fun K hK => ?_) AllReadyH.nil
      go_simp
      refine (live_s _ HC.out.1.ok).mono ?_
      rintro _ v4 ⟨rfl, hb⟩
      have HC := Lib.hid (And.intro (HC.out.1.step hb) (And.intro (HC.out.2.1.step hb) (HC.out.2.2.step hb)))
      clear hb
      go_wp2_with fail
      refine hK.out _ _ ?_ (fun hHeld => ?_)
      · exact HSt.out _ HC.out
      clear hK K
      try simp only [Act.put, List.setIfInBounds_toArray, List.set_cons_zero, List.set_cons_succ]
      refine wpAnyH_take (i := 27) (oi := { dst := some 54, op := _, type := _, pos := _, after := _, guard := _ }) (v := ?_) rfl (by kernel_rfl) (by kernel_rfl) (by kernel_rfl) (fun _ _ _ h => h) (Or.inl ⟨by rfl, ?_⟩) (by assumption) ?_
      rotate_left
      · intro w hSw
        try dsimp only at hSw
        go_simp
        try with_reducible rfl
      try simp only [Act.put, List.setIfInBounds_toArray, List.set_cons_zero, List.set_cons_succ]
      refine wpAnyH_take (i := 28) (oi := { dst := some 55, op := _, type := _, pos := _, after := _, guard := _ }) (v := ?_) rfl (by kernel_rfl) (by kernel_rfl) (by kernel_rfl) (fun _ _ _ h => h) (Or.inl ⟨by rfl, ?_⟩) (by assumption) ?_
      rotate_left
      · intro w hSw
        try dsimp only at hSw
        go_simp
        try with_reducible rfl
      try simp only [Act.put, List.setIfInBounds_toArray, List.set_cons_zero, List.set_cons_succ]
      refine wpAnyH_done (by kernel_rfl) ?_ _
      have HG := Lib.hid HC.out.1
      clear HC HSt
      obtain ⟨va, hva⟩ : ∃ v, vldC (a0, a1, a2) = v := ⟨_, rfl⟩
      obtain ⟨vb, hvb⟩ : ∃ v, vldC (b0, b1, b2) = v := ⟨_, rfl⟩
      have HVA := Lib.hid hva
      have HVB := Lib.hid hvb
      clear hva hvb
      have la0 : v4.cell? ⟨w.heap.size, 0, none⟩ = some (.int .i64 a0) := HG.out.k0.cell rfl
      have la1 : v4.cell? ⟨w.heap.size, 1, none⟩ = some (.int .i64 a1) := HG.out.k0.cell rfl
      have la2 : v4.cell? ⟨w.heap.size, 2, none⟩ = some (.int .i64 a2) := HG.out.k0.cell rfl
      go_wp2_with fail
      clear la0 la1 la2
      refine (vldb_k a0 a1 a2 va _ HVA.out).mono ?_
      rintro _ wd ⟨rfl, hb⟩
      have HG := Lib.hid (HG.out.step hb)
      clear hb
      cases va
      · skip
        go_wp2_with fail
        go_ret
        exact ⟨rfl, HG.out.low⟩
      · skip
        have lb0 : wd.cell? ⟨w.heap.size + 1, 0, none⟩ = some (.int .i64 b0) := HG.out.k1.cell rfl
        have lb1 : wd.cell? ⟨w.heap.size + 1, 1, none⟩ = some (.int .i64 b1) := HG.out.k1.cell rfl
        have lb2 : wd.cell? ⟨w.heap.size + 1, 2, none⟩ = some (.int .i64 b2) := HG.out.k1.cell rfl
        go_wp2_with fail
        clear lb0 lb1 lb2
        refine (vldb_k b0 b1 b2 vb _ HVB.out).mono ?_
        rintro _ we ⟨rfl, hb⟩
        have HG := Lib.hid (HG.out.step hb)
        clear hb
        cases vb
        · skip
          go_wp2_with fail
          go_ret
          exact ⟨rfl, HG.out.low⟩
        · have hVa := (vldC_iff _).1 HVA.out
          have hVb := (vldC_iff _).1 HVB.out
          have hpb := HPb.out hVa
          rw [← HPl.out hVa] at hpb
          have HP1 := Lib.hid hpb.1
          have HP2 := Lib.hid hpb.2
          obtain ⟨g, hg⟩ : ∃ g, cmpC (a0, a1, a2) (b0, b1, b2) = g := ⟨_, rfl⟩
          have HSg2 := Lib.hid (show sgnC ta tb = g by rw [HSg.out hVa hVb]; exact hg)
          have HCg := Lib.hid hg
          have qg : (g == g) = true := beq_self_eq_true _
          clear hVa hVb hpb hg
          have la0 : we.cell? ⟨w.heap.size, 0, none⟩ = some (.int .i64 a0) := HG.out.k0.cell rfl
          have la1 : we.cell? ⟨w.heap.size, 1, none⟩ = some (.int .i64 a1) := HG.out.k0.cell rfl
          have la2 : we.cell? ⟨w.heap.size, 2, none⟩ = some (.int .i64 a2) := HG.out.k0.cell rfl
          go_wp2_with fail
          clear la0 la1 la2
          refine (format_k a0 a1 a2 ta _ HG.out.ok.2 HTA.out).mono ?_
          rintro _ wg ⟨rfl, hb⟩
          have HG := Lib.hid (HG.out.step hb)
          clear hb
          go_wp2_with fail
          refine (parse_k ta a0 a1 a2 0 _ HTs.out HG.out.ok.1 HP2.out HP1.out).mono ?_
          rintro _ wf ⟨rfl, hb⟩
          have hb2 := box_below wf (.cells #[.int .i64 a0, .int .i64 a1, .int .i64 a2] 23)
          have HG := Lib.hid ((HG.out.step hb).step hb2)
          have KX : Hid (KbC (wf.alloc (.cells #[.int .i64 a0, .int .i64 a1, .int .i64 a2] 23)) wf.heap.size (.cells #[.int .i64 a0, .int .i64 a1, .int .i64 a2] 23)) := Lib.hid (kbc_new _ _)
          clear hb hb2
          go_wp2_with fail
          generalize wf.alloc (.cells #[.int .i64 a0, .int .i64 a1, .int .i64 a2] 23) = W3 at HG KX ⊢
          have HC := Lib.hid (And.intro (HG.out.step (Below.refl _ _).drew) (KX.out.step (Below.refl _ _).drew))
          have HSt := Lib.hid (show ∀ V : World, (BgT w (.cells #[.int .i64 a0, .int .i64 a1, .int .i64 a2] 23) (.cells #[.int .i64 b0, .int .i64 b1, .int .i64 b2] 23) V ∧ KbC V wf.heap.size (.cells #[.int .i64 a0, .int .i64 a1, .int .i64 a2] 23)) → (fun V => V.cell? ⟨w.heap.size, 0, none⟩ = some (.int .i64 a0) ∧ V.cell? ⟨w.heap.size, 1, none⟩ = some (.int .i64 a1) ∧ V.cell? ⟨w.heap.size, 2, none⟩ = some (.int .i64 a2) ∧ V.cell? ⟨w.heap.size + 1, 0, none⟩ = some (.int .i64 b0) ∧ V.cell? ⟨w.heap.size + 1, 1, none⟩ = some (.int .i64 b1) ∧ V.cell? ⟨w.heap.size + 1, 2, none⟩ = some (.int .i64 b2) ∧ V.cell? ⟨wf.heap.size, 0, none⟩ = some (.int .i64 a0) ∧ V.cell? ⟨wf.heap.size, 1, none⟩ = some (.int .i64 a1) ∧ V.cell? ⟨wf.heap.size, 2, none⟩ = some (.int .i64 a2) ∧ Hid (BgT w (.cells #[.int .i64 a0, .int .i64 a1, .int .i64 a2] 23) (.cells #[.int .i64 b0, .int .i64 b1, .int .i64 b2] 23) V ∧ KbC V wf.heap.size (.cells #[.int .i64 a0, .int .i64 a1, .int .i64 a2] 23))) V from fun V h => ⟨h.1.k0.cell rfl, h.1.k0.cell rfl, h.1.k0.cell rfl, h.1.k1.cell rfl, h.1.k1.cell rfl, h.1.k1.cell rfl, h.2.cell rfl, h.2.cell rfl, h.2.cell rfl, Lib.hid h⟩)
          have S0 := HSt.out _ HC.out
          clear HG KX
          refine wp_region_held_drew (S := fun V => V.cell? ⟨w.heap.size, 0, none⟩ = some (.int .i64 a0) ∧ V.cell? ⟨w.heap.size, 1, none⟩ = some (.int .i64 a1) ∧ V.cell? ⟨w.heap.size, 2, none⟩ = some (.int .i64 a2) ∧ V.cell? ⟨w.heap.size + 1, 0, none⟩ = some (.int .i64 b0) ∧ V.cell? ⟨w.heap.size + 1, 1, none⟩ = some (.int .i64 b1) ∧ V.cell? ⟨w.heap.size + 1, 2, none⟩ = some (.int .i64 b2) ∧ V.cell? ⟨wf.heap.size, 0, none⟩ = some (.int .i64 a0) ∧ V.cell? ⟨wf.heap.size, 1, none⟩ = some (.int .i64 a1) ∧ V.cell? ⟨wf.heap.size, 2, none⟩ = some (.int .i64 a2) ∧ Hid (BgT w (.cells #[.int .i64 a0, .int .i64 a1, .int .i64 a2] 23) (.cells #[.int .i64 b0, .int .i64 b1, .int .i64 b2] 23) V ∧ KbC V wf.heap.size (.cells #[.int .i64 a0, .int .i64 a1, .int .i64 a2] 23))) (by kernel_rfl) (S0) (fun hS => ?_)
          refine wpAnyH_take (i := 0) (oi := { dst := some 70, op := _, type := _, pos := _, after := _, guard := _ }) (v := ?_) rfl (by kernel_rfl) (by kernel_rfl) (by kernel_rfl) (fun _ _ _ h => h) (Or.inl ⟨by rfl, ?_⟩) (by assumption) ?_
          rotate_left
          · intro w hSw
            try dsimp only at hSw
            go_simp
            try with_reducible rfl
          try simp only [Act.put, List.setIfInBounds_toArray, List.set_cons_zero, List.set_cons_succ]
          refine wpAnyH_take (i := 1) (oi := { dst := some 71, op := _, type := _, pos := _, after := _, guard := _ }) (v := ?_) rfl (by kernel_rfl) (by kernel_rfl) (by kernel_rfl) (fun _ _ _ h => h) (Or.inl ⟨by rfl, ?_⟩) (by assumption) ?_
          rotate_left
          · intro w hSw
            try dsimp only at hSw
            go_simp
            try with_reducible rfl
          try simp only [Act.put, List.setIfInBounds_toArray, List.set_cons_zero, List.set_cons_succ]
          refine wpAnyH_take (i := 2) (oi := { dst := some 72, op := _, type := _, pos := _, after := _, guard := _ }) (v := ?_) rfl (by kernel_rfl) (by kernel_rfl) (by kernel_rfl) (fun _ _ _ h => h) (Or.inl ⟨by rfl, ?_⟩) (by assumption) ?_
          rotate_left
          · intro w hSw
            try dsimp only at hSw
            go_simp
            try with_reducible rfl
          try simp only [Act.put, List.setIfInBounds_toArray, List.set_cons_zero, List.set_cons_succ]
          refine wpAnyH_take (i := 3) (oi := { dst := some 73, op := _, type := _, pos := _, after := _, guard := _ }) (v := ?_) rfl (by kernel_rfl) (by kernel_rfl) (by kernel_rfl) (fun _ _ _ h => h) (Or.inl ⟨by rfl, ?_⟩) (by assumption) ?_
          rotate_left
          · intro w hSw
            try dsimp only at hSw
            go_simp
            try with_reducible rfl
          try simp only [Act.put, List.setIfInBounds_toArray, List.set_cons_zero, List.set_cons_succ]
          refine wpAnyH_take (i := 4) (oi := { dst := some 74, op := _, type := _, pos := _, after := _, guard := _ }) (v := ?_) rfl (by kernel_rfl) (by kernel_rfl) (by kernel_rfl) (fun _ _ _ h => h) (Or.inl ⟨by rfl, ?_⟩) (by assumption) ?_
          rotate_left
          · intro w hSw
            try dsimp only at hSw
            go_simp
            try with_reducible rfl
          try simp only [Act.put, List.setIfInBounds_toArray, List.set_cons_zero, List.set_cons_succ]
          refine wpAnyH_take (i := 5) (oi := { dst := some 75, op := _, type := _, pos := _, after := _, guard := _ }) (v := ?_) rfl (by kernel_rfl) (by kernel_rfl) (by kernel_rfl) (fun _ _ _ h => h) (Or.inl ⟨by rfl, ?_⟩) (by assumption) ?_
          rotate_left
          · intro w hSw
            try dsimp only at hSw
            go_simp
            try with_reducible rfl
          try simp only [Act.put, List.setIfInBounds_toArray, List.set_cons_zero, List.set_cons_succ]
          refine wpAnyH_take (i := 6) (oi := { dst := some 76, op := _, type := _, pos := _, after := _, guard := _ }) (v := ?_) rfl (by kernel_rfl) (by kernel_rfl) (by kernel_rfl) (fun _ _ _ h => h) (Or.inl ⟨by rfl, ?_⟩) (by assumption) ?_
          rotate_left
          · intro w hSw
            try dsimp only at hSw
            go_simp
            try with_reducible rfl
          try simp only [Act.put, List.setIfInBounds_toArray, List.set_cons_zero, List.set_cons_succ]
          refine wpAnyH_take (i := 7) (oi := { dst := some 77, op := _, type := _, pos := _, after := _, guard := _ }) (v := ?_) rfl (by kernel_rfl) (by kernel_rfl) (by kernel_rfl) (fun _ _ _ h => h) (Or.inl ⟨by rfl, ?_⟩) (by assumption) ?_
          rotate_left
          · intro w hSw
            try dsimp only at hSw
            go_simp
            try with_reducible rfl
          try simp only [Act.put, List.setIfInBounds_toArray, List.set_cons_zero, List.set_cons_succ]
          refine wpAnyH_take (i := 8) (oi := { dst := some 78, op := _, type := _, pos := _, after := _, guard := _ }) (v := ?_) rfl (by kernel_rfl) (by kernel_rfl) (by kernel_rfl) (fun _ _ _ h => h) (Or.inl ⟨by rfl, ?_⟩) (by assumption) ?_
          rotate_left
          · intro w hSw
            try dsimp only at hSw
            go_simp
            try with_reducible rfl
          try simp only [Act.put, List.setIfInBounds_toArray, List.set_cons_zero, List.set_cons_succ]
          refine wpAnyH_take (i := 10) (oi := { dst := some 80, op := _, type := _, pos := _, after := _, guard := _ }) (v := ?_) rfl (by kernel_rfl) (by kernel_rfl) (by kernel_rfl) (fun _ _ _ h => h) (Or.inl ⟨by rfl, ?_⟩) (by assumption) ?_
          rotate_left
          · intro w hSw
            try dsimp only at hSw
            go_simp
            try with_reducible rfl
          try simp only [Act.put, List.setIfInBounds_toArray, List.set_cons_zero, List.set_cons_succ]
          refine wpAnyH_take (i := 13) (oi := { dst := some 83, op := _, type := _, pos := _, after := _, guard := _ }) (v := ?_) rfl (by kernel_rfl) (by kernel_rfl) (by kernel_rfl) (fun _ _ _ h => h) (Or.inl ⟨by rfl, ?_⟩) (by assumption) ?_
          rotate_left
          · intro w hSw
            try dsimp only at hSw
            go_simp
            try with_reducible rfl
          try simp only [Act.put, List.setIfInBounds_toArray, List.set_cons_zero, List.set_cons_succ]
          refine wpAnyH_take (i := 14) (oi := { dst := some 84, op := _, type := _, pos := _, after := _, guard := _ }) (v := ?_) rfl (by kernel_rfl) (by kernel_rfl) (by kernel_rfl) (fun _ _ _ h => h) (Or.inl ⟨by rfl, ?_⟩) (by assumption) ?_
          rotate_left
          · intro w hSw
            try dsimp only at hSw
            go_simp
            try with_reducible rfl
          try simp only [Act.put, List.setIfInBounds_toArray, List.set_cons_zero, List.set_cons_succ]
          refine wpAnyH_ready (rs := [9]) (by kernel_rfl) (by simp) ?_
          refine AllReadyH.cons rfl (fun K hK => ?_) AllReadyH.nil
          go_simp
          refine (format_k a0 a1 a2 ta _ HC.out.1.ok.2 HTA.out).mono ?_
          rintro _ u1 ⟨rfl, hb⟩
          have HC := Lib.hid (And.intro (HC.out.1.step hb) (HC.out.2.step hb))
          clear hb
          go_wp2_with fail
          refine hK.out _ _ ?_ (fun hHeld => ?_)
          · exact HSt.out _ HC.out
          clear hK K
          try simp only [Act.put, List.setIfInBounds_toArray, List.set_cons_zero, List.set_cons_succ]
          refine wpAnyH_ready (rs := [11]) (by kernel_rfl) (by simp) ?_
          refine AllReadyH.cons rfl (fun K hK => ?_) AllReadyH.nil
          go_simp
          refine (format_k b0 b1 b2 tb _ HC.out.1.ok.2 HTB.out).mono ?_
          rintro _ u2 ⟨rfl, hb⟩
          have HC := Lib.hid (And.intro (HC.out.1.step hb) (HC.out.2.step hb))
          clear hb
          go_wp2_with fail
          refine hK.out _ _ ?_ (fun hHeld => ?_)
          · exact HSt.out _ HC.out
          clear hK K
          try simp only [Act.put, List.setIfInBounds_toArray, List.set_cons_zero, List.set_cons_succ]
          refine wpAnyH_ready (rs := [12]) (by kernel_rfl) (by simp) ?_
          refine AllReadyH.cons rfl (fun K hK => ?_) AllReadyH.nil
          go_simp
          refine (sign_k ta tb g _ HSg2.out).mono ?_
          rintro _ u3 ⟨rfl, hb⟩
          subst hb
          go_wp2_with fail
          refine hK.out _ _ ?_ (fun hHeld => ?_)
          · exact HSt.out _ HC.out
          clear hK K
          try simp only [Act.put, List.setIfInBounds_toArray, List.set_cons_zero, List.set_cons_succ]
          refine wpAnyH_ready (rs := [15]) (by kernel_rfl) (by simp) ?_
          refine AllReadyH.cons rfl (fun K hK => ?_) AllReadyH.nil
          go_simp
          refine (cmp_k a0 a1 a2 b0 b1 b2 g _ HCg.out).mono ?_
          rintro _ u4 ⟨rfl, hb⟩
          have HC := Lib.hid (And.intro (HC.out.1.step hb) (HC.out.2.step hb))
          clear hb
          go_wp2_with fail
          refine hK.out _ _ ?_ (fun hHeld => ?_)
          · exact HSt.out _ HC.out
          clear hK K
          try simp only [Act.put, List.setIfInBounds_toArray, List.set_cons_zero, List.set_cons_succ]
          refine wpAnyH_take (i := 16) (oi := { dst := some 86, op := _, type := _, pos := _, after := _, guard := _ }) (v := ?_) rfl (by kernel_rfl) (by kernel_rfl) (by kernel_rfl) (fun _ _ _ h => h) (Or.inl ⟨by rfl, ?_⟩) (by assumption) ?_
          rotate_left
          · intro w hSw
            try dsimp only at hSw
            go_simp
            try with_reducible rfl
          try simp only [Act.put, List.setIfInBounds_toArray, List.set_cons_zero, List.set_cons_succ]
          refine wpAnyH_take (i := 17) (oi := { dst := some 87, op := _, type := _, pos := _, after := _, guard := _ }) (v := ?_) rfl (by kernel_rfl) (by kernel_rfl) (by kernel_rfl) (fun _ _ _ h => h) (Or.inl ⟨by rfl, ?_⟩) (by assumption) ?_
          rotate_left
          · intro w hSw
            try dsimp only at hSw
            go_simp
            try with_reducible rfl
          try simp only [Act.put, List.setIfInBounds_toArray, List.set_cons_zero, List.set_cons_succ]
          refine wpAnyH_take (i := 18) (oi := { dst := some 6, op := _, type := _, pos := _, after := _, guard := _ }) (v := ?_) rfl (by kernel_rfl) (by kernel_rfl) (by kernel_rfl) (fun _ _ _ h => h) (Or.inl ⟨by rfl, ?_⟩) (by assumption) ?_
          rotate_left
          · intro w hSw
            try dsimp only at hSw
            go_simp
            try with_reducible rfl
          try simp only [Act.put, List.setIfInBounds_toArray, List.set_cons_zero, List.set_cons_succ]
          refine wpAnyH_done (by kernel_rfl) ?_ _
          go_wp2_with fail
          go_ret
          exact ⟨rfl, HC.out.1.low⟩
    · have q1 : (e == 0) = false := beq_eq_false_iff_ne.2 he0
      clear he0
      refine wp_region_held_drew (S := fun V => V.cell? ⟨w.heap.size, 0, none⟩ = some (.int .i64 a0) ∧ V.cell? ⟨w.heap.size, 1, none⟩ = some (.int .i64 a1) ∧ V.cell? ⟨w.heap.size, 2, none⟩ = some (.int .i64 a2) ∧ V.cell? ⟨w.heap.size + 1, 0, none⟩ = some (.int .i64 b0) ∧ V.cell? ⟨w.heap.size + 1, 1, none⟩ = some (.int .i64 b1) ∧ V.cell? ⟨w.heap.size + 1, 2, none⟩ = some (.int .i64 b2) ∧ V.cell? ⟨wa.heap.size, 0, none⟩ = some (.int .i64 x0) ∧ V.cell? ⟨wa.heap.size, 1, none⟩ = some (.int .i64 x1) ∧ V.cell? ⟨wa.heap.size, 2, none⟩ = some (.int .i64 x2) ∧ V.cell? ⟨wb.heap.size, 0, none⟩ = some (.int .i64 x0) ∧ V.cell? ⟨wb.heap.size, 1, none⟩ = some (.int .i64 x1) ∧ V.cell? ⟨wb.heap.size, 2, none⟩ = some (.int .i64 x2) ∧ Hid (BgT w (.cells #[.int .i64 a0, .int .i64 a1, .int .i64 a2] 23) (.cells #[.int .i64 b0, .int .i64 b1, .int .i64 b2] 23) V ∧ KbC V wa.heap.size (.cells #[.int .i64 x0, .int .i64 x1, .int .i64 x2] 23) ∧ KbC V wb.heap.size (.cells #[.int .i64 x0, .int .i64 x1, .int .i64 x2] 23))) (by kernel_rfl) (S0) (fun hS => ?_)
      refine wpAnyH_take (i := 0) (oi := { dst := some 27, op := _, type := _, pos := _, after := _, guard := _ }) (v := ?_) rfl (by kernel_rfl) (by kernel_rfl) (by kernel_rfl) (fun _ _ _ h => h) (Or.inl ⟨by rfl, ?_⟩) (by assumption) ?_
      rotate_left
      · intro w hSw
        try dsimp only at hSw
        go_simp
        try with_reducible rfl
      try simp only [Act.put, List.setIfInBounds_toArray, List.set_cons_zero, List.set_cons_succ]
      refine wpAnyH_take (i := 1) (oi := { dst := some 28, op := _, type := _, pos := _, after := _, guard := _ }) (v := ?_) rfl (by kernel_rfl) (by kernel_rfl) (by kernel_rfl) (fun _ _ _ h => h) (Or.inl ⟨by rfl, ?_⟩) (by assumption) ?_
      rotate_left
      · intro w hSw
        try dsimp only at hSw
        go_simp
        try with_reducible rfl
      try simp only [Act.put, List.setIfInBounds_toArray, List.set_cons_zero, List.set_cons_succ]
      refine wpAnyH_take (i := 2) (oi := { dst := some 29, op := _, type := _, pos := _, after := _, guard := _ }) (v := ?_) rfl (by kernel_rfl) (by kernel_rfl) (by kernel_rfl) (fun _ _ _ h => h) (Or.inl ⟨by rfl, ?_⟩) (by assumption) ?_
      rotate_left
      · intro w hSw
        try dsimp only at hSw
        go_simp
        try with_reducible rfl
      try simp only [Act.put, List.setIfInBounds_toArray, List.set_cons_zero, List.set_cons_succ]
      refine wpAnyH_take (i := 3) (oi := { dst := some 30, op := _, type := _, pos := _, after := _, guard := _ }) (v := ?_) rfl (by kernel_rfl) (by kernel_rfl) (by kernel_rfl) (fun _ _ _ h => h) (Or.inl ⟨by rfl, ?_⟩) (by assumption) ?_
      rotate_left
      · intro w hSw
        try dsimp only at hSw
        go_simp
        try with_reducible rfl
      try simp only [Act.put, List.setIfInBounds_toArray, List.set_cons_zero, List.set_cons_succ]
      refine wpAnyH_take (i := 4) (oi := { dst := some 31, op := _, type := _, pos := _, after := _, guard := _ }) (v := ?_) rfl (by kernel_rfl) (by kernel_rfl) (by kernel_rfl) (fun _ _ _ h => h) (Or.inl ⟨by rfl, ?_⟩) (by assumption) ?_
      rotate_left
      · intro w hSw
        try dsimp only at hSw
        go_simp
        try with_reducible rfl
      try simp only [Act.put, List.setIfInBounds_toArray, List.set_cons_zero, List.set_cons_succ]
      refine wpAnyH_take (i := 5) (oi := { dst := some 32, op := _, type := _, pos := _, after := _, guard := _ }) (v := ?_) rfl (by kernel_rfl) (by kernel_rfl) (by kernel_rfl) (fun _ _ _ h => h) (Or.inl ⟨by rfl, ?_⟩) (by assumption) ?_
      rotate_left
      · intro w hSw
        try dsimp only at hSw
        go_simp
        try with_reducible rfl
      try simp only [Act.put, List.setIfInBounds_toArray, List.set_cons_zero, List.set_cons_succ]
      refine wpAnyH_take (i := 6) (oi := { dst := some 33, op := _, type := _, pos := _, after := _, guard := _ }) (v := ?_) rfl (by kernel_rfl) (by kernel_rfl) (by kernel_rfl) (fun _ _ _ h => h) (Or.inl ⟨by rfl, ?_⟩) (by assumption) ?_
      rotate_left
      · intro w hSw
        try dsimp only at hSw
        go_simp
        try with_reducible rfl
      try simp only [Act.put, List.setIfInBounds_toArray, List.set_cons_zero, List.set_cons_succ]
      refine wpAnyH_take (i := 7) (oi := { dst := some 34, op := _, type := _, pos := _, after := _, guard := _ }) (v := ?_) rfl (by kernel_rfl) (by kernel_rfl) (by kernel_rfl) (fun _ _ _ h => h) (Or.inl ⟨by rfl, ?_⟩) (by assumption) ?_
      rotate_left
      · intro w hSw
        try dsimp only at hSw
        go_simp
        try with_reducible rfl
      try simp only [Act.put, List.setIfInBounds_toArray, List.set_cons_zero, List.set_cons_succ]
      refine wpAnyH_take (i := 8) (oi := { dst := some 35, op := _, type := _, pos := _, after := _, guard := _ }) (v := ?_) rfl (by kernel_rfl) (by kernel_rfl) (by kernel_rfl) (fun _ _ _ h => h) (Or.inl ⟨by rfl, ?_⟩) (by assumption) ?_
      rotate_left
      · intro w hSw
        try dsimp only at hSw
        go_simp
        try with_reducible rfl
      try simp only [Act.put, List.setIfInBounds_toArray, List.set_cons_zero, List.set_cons_succ]
      refine wpAnyH_take (i := 9) (oi := { dst := some 36, op := _, type := _, pos := _, after := _, guard := _ }) (v := ?_) rfl (by kernel_rfl) (by kernel_rfl) (by kernel_rfl) (fun _ _ _ h => h) (Or.inl ⟨by rfl, ?_⟩) (by assumption) ?_
      rotate_left
      · intro w hSw
        try dsimp only at hSw
        go_simp
        try with_reducible rfl
      try simp only [Act.put, List.setIfInBounds_toArray, List.set_cons_zero, List.set_cons_succ]
      refine wpAnyH_take (i := 10) (oi := { dst := some 37, op := _, type := _, pos := _, after := _, guard := _ }) (v := ?_) rfl (by kernel_rfl) (by kernel_rfl) (by kernel_rfl) (fun _ _ _ h => h) (Or.inl ⟨by rfl, ?_⟩) (by assumption) ?_
      rotate_left
      · intro w hSw
        try dsimp only at hSw
        go_simp
        try with_reducible rfl
      try simp only [Act.put, List.setIfInBounds_toArray, List.set_cons_zero, List.set_cons_succ]
      refine wpAnyH_take (i := 11) (oi := { dst := some 38, op := _, type := _, pos := _, after := _, guard := _ }) (v := ?_) rfl (by kernel_rfl) (by kernel_rfl) (by kernel_rfl) (fun _ _ _ h => h) (Or.inl ⟨by rfl, ?_⟩) (by assumption) ?_
      rotate_left
      · intro w hSw
        try dsimp only at hSw
        go_simp
        try with_reducible rfl
      try simp only [Act.put, List.setIfInBounds_toArray, List.set_cons_zero, List.set_cons_succ]
      refine wpAnyH_take (i := 12) (oi := { dst := some 39, op := _, type := _, pos := _, after := _, guard := _ }) (v := undef) rfl (by kernel_rfl) (by kernel_rfl) (by kernel_rfl) (fun _ _ _ h => h) (Or.inr ⟨by rfl, rfl⟩) (by assumption) ?_
      try simp only [Act.put, List.setIfInBounds_toArray, List.set_cons_zero, List.set_cons_succ]
      refine wpAnyH_take (i := 13) (oi := { dst := some 40, op := _, type := _, pos := _, after := _, guard := _ }) (v := undef) rfl (by kernel_rfl) (by kernel_rfl) (by kernel_rfl) (fun _ _ _ h => h) (Or.inr ⟨by rfl, rfl⟩) (by assumption) ?_
      try simp only [Act.put, List.setIfInBounds_toArray, List.set_cons_zero, List.set_cons_succ]
      refine wpAnyH_take (i := 14) (oi := { dst := some 41, op := _, type := _, pos := _, after := _, guard := _ }) (v := undef) rfl (by kernel_rfl) (by kernel_rfl) (by kernel_rfl) (fun _ _ _ h => h) (Or.inr ⟨by rfl, rfl⟩) (by assumption) ?_
      try simp only [Act.put, List.setIfInBounds_toArray, List.set_cons_zero, List.set_cons_succ]
      refine wpAnyH_take (i := 15) (oi := { dst := some 42, op := _, type := _, pos := _, after := _, guard := _ }) (v := undef) rfl (by kernel_rfl) (by kernel_rfl) (by kernel_rfl) (fun _ _ _ h => h) (Or.inr ⟨by rfl, rfl⟩) (by assumption) ?_
      try simp only [Act.put, List.setIfInBounds_toArray, List.set_cons_zero, List.set_cons_succ]
      refine wpAnyH_take (i := 16) (oi := { dst := some 43, op := _, type := _, pos := _, after := _, guard := _ }) (v := ?_) rfl (by kernel_rfl) (by kernel_rfl) (by kernel_rfl) (fun _ _ _ h => h) (Or.inl ⟨by rfl, ?_⟩) (by assumption) ?_
      rotate_left
      · intro w hSw
        try dsimp only at hSw
        go_simp
        try with_reducible rfl
      try simp only [Act.put, List.setIfInBounds_toArray, List.set_cons_zero, List.set_cons_succ]
      refine wpAnyH_take (i := 17) (oi := { dst := some 44, op := _, type := _, pos := _, after := _, guard := _ }) (v := ?_) rfl (by kernel_rfl) (by kernel_rfl) (by kernel_rfl) (fun _ _ _ h => h) (Or.inl ⟨by rfl, ?_⟩) (by assumption) ?_
      rotate_left
      · intro w hSw
        try dsimp only at hSw
        go_simp
        try with_reducible rfl
      try simp only [Act.put, List.setIfInBounds_toArray, List.set_cons_zero, List.set_cons_succ]
      refine wpAnyH_take (i := 18) (oi := { dst := some 45, op := _, type := _, pos := _, after := _, guard := _ }) (v := ?_) rfl (by kernel_rfl) (by kernel_rfl) (by kernel_rfl) (fun _ _ _ h => h) (Or.inl ⟨by rfl, ?_⟩) (by assumption) ?_
      rotate_left
      · intro w hSw
        try dsimp only at hSw
        go_simp
        try with_reducible rfl
      try simp only [Act.put, List.setIfInBounds_toArray, List.set_cons_zero, List.set_cons_succ]
      refine wpAnyH_take (i := 19) (oi := { dst := some 46, op := _, type := _, pos := _, after := _, guard := _ }) (v := ?_) rfl (by kernel_rfl) (by kernel_rfl) (by kernel_rfl) (fun _ _ _ h => h) (Or.inl ⟨by rfl, ?_⟩) (by assumption) ?_
      rotate_left
      · intro w hSw
        try dsimp only at hSw
        go_simp
        try with_reducible rfl
      try simp only [Act.put, List.setIfInBounds_toArray, List.set_cons_zero, List.set_cons_succ]
      refine wpAnyH_take (i := 21) (oi := { dst := some 48, op := _, type := _, pos := _, after := _, guard := _ }) (v := ?_) rfl (by kernel_rfl) (by kernel_rfl) (by kernel_rfl) (fun _ _ _ h => h) (Or.inl ⟨by rfl, ?_⟩) (by assumption) ?_
      rotate_left
      · intro w hSw
        try dsimp only at hSw
        go_simp
        try with_reducible rfl
      try simp only [Act.put, List.setIfInBounds_toArray, List.set_cons_zero, List.set_cons_succ]
      refine wpAnyH_ready (rs := [20]) (by kernel_rfl) (by simp) ?_
      refine AllReadyH.cons rfl (fun K hK => ?_) AllReadyH.nil
      go_simp
      refine (format_k a0 a1 a2 ta _ HC.out.1.ok.2 HTA.out).mono ?_
      rintro _ v2 ⟨rfl, hb⟩
      have HC := Lib.hid (And.intro (HC.out.1.step hb) (And.intro (HC.out.2.1.step hb) (HC.out.2.2.step hb)))
      clear hb
      go_wp2_with fail
      refine hK.out _ _ ?_ (fun hHeld => ?_)
      · exact HSt.out _ HC.out
      clear hK K
      try simp only [Act.put, List.setIfInBounds_toArray, List.set_cons_zero, List.set_cons_succ]
      refine wpAnyH_ready (rs := [22]) (by kernel_rfl) (by simp) ?_
      refine AllReadyH.cons rfl (fun K hK => ?_) AllReadyH.nil
      go_simp
      refine (rformat_k a0 a1 a2 ta _ HTA.out).mono ?_
      rintro _ v3 ⟨rfl, hb⟩
      have HC := Lib.hid (And.intro (HC.out.1.step hb) (And.intro (HC.out.2.1.step hb) (HC.out.2.2.step hb)))
      clear hb
      go_wp2_with fail
      refine hK.out _ _ ?_ (fun hHeld => ?_)
      · exact HSt.out _ HC.out
      clear hK K
      try simp only [Act.put, List.setIfInBounds_toArray, List.set_cons_zero, List.set_cons_succ]
      refine wpAnyH_take (i := 23) (oi := { dst := some 50, op := _, type := _, pos := _, after := _, guard := _ }) (v := ?_) rfl (by kernel_rfl) (by kernel_rfl) (by kernel_rfl) (fun _ _ _ h => h) (Or.inl ⟨by rfl, ?_⟩) (by assumption) ?_
      rotate_left
      · intro w hSw
        try dsimp only at hSw
        go_simp
        try with_reducible rfl
      try simp only [Act.put, List.setIfInBounds_toArray, List.set_cons_zero, List.set_cons_succ]
      refine wpAnyH_take (i := 24) (oi := { dst := some 51, op := _, type := _, pos := _, after := _, guard := _ }) (v := ?_) rfl (by kernel_rfl) (by kernel_rfl) (by kernel_rfl) (fun _ _ _ h => h) (Or.inl ⟨by rfl, ?_⟩) (by assumption) ?_
      rotate_left
      · intro w hSw
        try dsimp only at hSw
        go_simp
        try with_reducible rfl
      try simp only [Act.put, List.setIfInBounds_toArray, List.set_cons_zero, List.set_cons_succ]
      refine wpAnyH_take (i := 25) (oi := { dst := some 52, op := _, type := _, pos := _, after := _, guard := _ }) (v := ?_) rfl (by kernel_rfl) (by kernel_rfl) (by kernel_rfl) (fun _ _ _ h => h) (Or.inl ⟨by rfl, ?_⟩) (by assumption) ?_
      rotate_left
      · intro w hSw
        try dsimp only at hSw
        go_simp
        try with_reducible rfl
      try simp only [Act.put, List.setIfInBounds_toArray, List.set_cons_zero, List.set_cons_succ]
      refine wpAnyH_ready (rs := [26]) (by kernel_rfl) (by simp) ?_
      refine AllReadyH.cons rfl (fun K hK => ?_) AllReadyH.nil
      go_simp
      refine (live_s _ HC.out.1.ok).mono ?_
      rintro _ v4 ⟨rfl, hb⟩
      have HC := Lib.hid (And.intro (HC.out.1.step hb) (And.intro (HC.out.2.1.step hb) (HC.out.2.2.step hb)))
      clear hb
      go_wp2_with fail
      refine hK.out _ _ ?_ (fun hHeld => ?_)
      · exact HSt.out _ HC.out
      clear hK K
      try simp only [Act.put, List.setIfInBounds_toArray, List.set_cons_zero, List.set_cons_succ]
      refine wpAnyH_take (i := 27) (oi := { dst := some 54, op := _, type := _, pos := _, after := _, guard := _ }) (v := ?_) rfl (by kernel_rfl) (by kernel_rfl) (by kernel_rfl) (fun _ _ _ h => h) (Or.inl ⟨by rfl, ?_⟩) (by assumption) ?_
      rotate_left
      · intro w hSw
        try dsimp only at hSw
        go_simp
        try with_reducible rfl
      try simp only [Act.put, List.setIfInBounds_toArray, List.set_cons_zero, List.set_cons_succ]
      refine wpAnyH_take (i := 28) (oi := { dst := some 55, op := _, type := _, pos := _, after := _, guard := _ }) (v := ?_) rfl (by kernel_rfl) (by kernel_rfl) (by kernel_rfl) (fun _ _ _ h => h) (Or.inl ⟨by rfl, ?_⟩) (by assumption) ?_
      rotate_left
      · intro w hSw
        try dsimp only at hSw
        go_simp
        try with_reducible rfl
      try simp only [Act.put, List.setIfInBounds_toArray, List.set_cons_zero, List.set_cons_succ]
      refine wpAnyH_done (by kernel_rfl) ?_ _
      have HG := Lib.hid HC.out.1
      clear HC HSt
      obtain ⟨va, hva⟩ : ∃ v, vldC (a0, a1, a2) = v := ⟨_, rfl⟩
      obtain ⟨vb, hvb⟩ : ∃ v, vldC (b0, b1, b2) = v := ⟨_, rfl⟩
      have HVA := Lib.hid hva
      have HVB := Lib.hid hvb
      clear hva hvb
      have la0 : v4.cell? ⟨w.heap.size, 0, none⟩ = some (.int .i64 a0) := HG.out.k0.cell rfl
      have la1 : v4.cell? ⟨w.heap.size, 1, none⟩ = some (.int .i64 a1) := HG.out.k0.cell rfl
      have la2 : v4.cell? ⟨w.heap.size, 2, none⟩ = some (.int .i64 a2) := HG.out.k0.cell rfl
      go_wp2_with fail
      clear la0 la1 la2
      refine (vldb_k a0 a1 a2 va _ HVA.out).mono ?_
      rintro _ wd ⟨rfl, hb⟩
      have HG := Lib.hid (HG.out.step hb)
      clear hb
      cases va
      · skip
        go_wp2_with fail
        go_ret
        exact ⟨rfl, HG.out.low⟩
      · skip
        have lb0 : wd.cell? ⟨w.heap.size + 1, 0, none⟩ = some (.int .i64 b0) := HG.out.k1.cell rfl
        have lb1 : wd.cell? ⟨w.heap.size + 1, 1, none⟩ = some (.int .i64 b1) := HG.out.k1.cell rfl
        have lb2 : wd.cell? ⟨w.heap.size + 1, 2, none⟩ = some (.int .i64 b2) := HG.out.k1.cell rfl
        go_wp2_with fail
        clear lb0 lb1 lb2
        refine (vldb_k b0 b1 b2 vb _ HVB.out).mono ?_
        rintro _ we ⟨rfl, hb⟩
        have HG := Lib.hid (HG.out.step hb)
        clear hb
        cases vb
        · skip
          go_wp2_with fail
          go_ret
          exact ⟨rfl, HG.out.low⟩
        · have hVa := (vldC_iff _).1 HVA.out
          have hVb := (vldC_iff _).1 HVB.out
          have hpb := HPb.out hVa
          rw [← HPl.out hVa] at hpb
          have HP1 := Lib.hid hpb.1
          have HP2 := Lib.hid hpb.2
          obtain ⟨g, hg⟩ : ∃ g, cmpC (a0, a1, a2) (b0, b1, b2) = g := ⟨_, rfl⟩
          have HSg2 := Lib.hid (show sgnC ta tb = g by rw [HSg.out hVa hVb]; exact hg)
          have HCg := Lib.hid hg
          have qg : (g == g) = true := beq_self_eq_true _
          clear hVa hVb hpb hg
          have la0 : we.cell? ⟨w.heap.size, 0, none⟩ = some (.int .i64 a0) := HG.out.k0.cell rfl
          have la1 : we.cell? ⟨w.heap.size, 1, none⟩ = some (.int .i64 a1) := HG.out.k0.cell rfl
          have la2 : we.cell? ⟨w.heap.size, 2, none⟩ = some (.int .i64 a2) := HG.out.k0.cell rfl
          go_wp2_with fail
          clear la0 la1 la2
          refine (format_k a0 a1 a2 ta _ HG.out.ok.2 HTA.out).mono ?_
          rintro _ wg ⟨rfl, hb⟩
          have HG := Lib.hid (HG.out.step hb)
          clear hb
          go_wp2_with fail
          refine (parse_k ta a0 a1 a2 0 _ HTs.out HG.out.ok.1 HP2.out HP1.out).mono ?_
          rintro _ wf ⟨rfl, hb⟩
          have hb2 := box_below wf (.cells #[.int .i64 a0, .int .i64 a1, .int .i64 a2] 23)
          have HG := Lib.hid ((HG.out.step hb).step hb2)
          have KX : Hid (KbC (wf.alloc (.cells #[.int .i64 a0, .int .i64 a1, .int .i64 a2] 23)) wf.heap.size (.cells #[.int .i64 a0, .int .i64 a1, .int .i64 a2] 23)) := Lib.hid (kbc_new _ _)
          clear hb hb2
          go_wp2_with fail
          generalize wf.alloc (.cells #[.int .i64 a0, .int .i64 a1, .int .i64 a2] 23) = W3 at HG KX ⊢
          have HC := Lib.hid (And.intro (HG.out.step (Below.refl _ _).drew) (KX.out.step (Below.refl _ _).drew))
          have HSt := Lib.hid (show ∀ V : World, (BgT w (.cells #[.int .i64 a0, .int .i64 a1, .int .i64 a2] 23) (.cells #[.int .i64 b0, .int .i64 b1, .int .i64 b2] 23) V ∧ KbC V wf.heap.size (.cells #[.int .i64 a0, .int .i64 a1, .int .i64 a2] 23)) → (fun V => V.cell? ⟨w.heap.size, 0, none⟩ = some (.int .i64 a0) ∧ V.cell? ⟨w.heap.size, 1, none⟩ = some (.int .i64 a1) ∧ V.cell? ⟨w.heap.size, 2, none⟩ = some (.int .i64 a2) ∧ V.cell? ⟨w.heap.size + 1, 0, none⟩ = some (.int .i64 b0) ∧ V.cell? ⟨w.heap.size + 1, 1, none⟩ = some (.int .i64 b1) ∧ V.cell? ⟨w.heap.size + 1, 2, none⟩ = some (.int .i64 b2) ∧ V.cell? ⟨wf.heap.size, 0, none⟩ = some (.int .i64 a0) ∧ V.cell? ⟨wf.heap.size, 1, none⟩ = some (.int .i64 a1) ∧ V.cell? ⟨wf.heap.size, 2, none⟩ = some (.int .i64 a2) ∧ Hid (BgT w (.cells #[.int .i64 a0, .int .i64 a1, .int .i64 a2] 23) (.cells #[.int .i64 b0, .int .i64 b1, .int .i64 b2] 23) V ∧ KbC V wf.heap.size (.cells #[.int .i64 a0, .int .i64 a1, .int .i64 a2] 23))) V from fun V h => ⟨h.1.k0.cell rfl, h.1.k0.cell rfl, h.1.k0.cell rfl, h.1.k1.cell rfl, h.1.k1.cell rfl, h.1.k1.cell rfl, h.2.cell rfl, h.2.cell rfl, h.2.cell rfl, Lib.hid h⟩)
          have S0 := HSt.out _ HC.out
          clear HG KX
          refine wp_region_held_drew (S := fun V => V.cell? ⟨w.heap.size, 0, none⟩ = some (.int .i64 a0) ∧ V.cell? ⟨w.heap.size, 1, none⟩ = some (.int .i64 a1) ∧ V.cell? ⟨w.heap.size, 2, none⟩ = some (.int .i64 a2) ∧ V.cell? ⟨w.heap.size + 1, 0, none⟩ = some (.int .i64 b0) ∧ V.cell? ⟨w.heap.size + 1, 1, none⟩ = some (.int .i64 b1) ∧ V.cell? ⟨w.heap.size + 1, 2, none⟩ = some (.int .i64 b2) ∧ V.cell? ⟨wf.heap.size, 0, none⟩ = some (.int .i64 a0) ∧ V.cell? ⟨wf.heap.size, 1, none⟩ = some (.int .i64 a1) ∧ V.cell? ⟨wf.heap.size, 2, none⟩ = some (.int .i64 a2) ∧ Hid (BgT w (.cells #[.int .i64 a0, .int .i64 a1, .int .i64 a2] 23) (.cells #[.int .i64 b0, .int .i64 b1, .int .i64 b2] 23) V ∧ KbC V wf.heap.size (.cells #[.int .i64 a0, .int .i64 a1, .int .i64 a2] 23))) (by kernel_rfl) (S0) (fun hS => ?_)
          refine wpAnyH_take (i := 0) (oi := { dst := some 70, op := _, type := _, pos := _, after := _, guard := _ }) (v := ?_) rfl (by kernel_rfl) (by kernel_rfl) (by kernel_rfl) (fun _ _ _ h => h) (Or.inl ⟨by rfl, ?_⟩) (by assumption) ?_
          rotate_left
          · intro w hSw
            try dsimp only at hSw
            go_simp
            try with_reducible rfl
          try simp only [Act.put, List.setIfInBounds_toArray, List.set_cons_zero, List.set_cons_succ]
          refine wpAnyH_take (i := 1) (oi := { dst := some 71, op := _, type := _, pos := _, after := _, guard := _ }) (v := ?_) rfl (by kernel_rfl) (by kernel_rfl) (by kernel_rfl) (fun _ _ _ h => h) (Or.inl ⟨by rfl, ?_⟩) (by assumption) ?_
          rotate_left
          · intro w hSw
            try dsimp only at hSw
            go_simp
            try with_reducible rfl
          try simp only [Act.put, List.setIfInBounds_toArray, List.set_cons_zero, List.set_cons_succ]
          refine wpAnyH_take (i := 2) (oi := { dst := some 72, op := _, type := _, pos := _, after := _, guard := _ }) (v := ?_) rfl (by kernel_rfl) (by kernel_rfl) (by kernel_rfl) (fun _ _ _ h => h) (Or.inl ⟨by rfl, ?_⟩) (by assumption) ?_
          rotate_left
          · intro w hSw
            try dsimp only at hSw
            go_simp
            try with_reducible rfl
          try simp only [Act.put, List.setIfInBounds_toArray, List.set_cons_zero, List.set_cons_succ]
          refine wpAnyH_take (i := 3) (oi := { dst := some 73, op := _, type := _, pos := _, after := _, guard := _ }) (v := ?_) rfl (by kernel_rfl) (by kernel_rfl) (by kernel_rfl) (fun _ _ _ h => h) (Or.inl ⟨by rfl, ?_⟩) (by assumption) ?_
          rotate_left
          · intro w hSw
            try dsimp only at hSw
            go_simp
            try with_reducible rfl
          try simp only [Act.put, List.setIfInBounds_toArray, List.set_cons_zero, List.set_cons_succ]
          refine wpAnyH_take (i := 4) (oi := { dst := some 74, op := _, type := _, pos := _, after := _, guard := _ }) (v := ?_) rfl (by kernel_rfl) (by kernel_rfl) (by kernel_rfl) (fun _ _ _ h => h) (Or.inl ⟨by rfl, ?_⟩) (by assumption) ?_
          rotate_left
          · intro w hSw
            try dsimp only at hSw
            go_simp
            try with_reducible rfl
          try simp only [Act.put, List.setIfInBounds_toArray, List.set_cons_zero, List.set_cons_succ]
          refine wpAnyH_take (i := 5) (oi := { dst := some 75, op := _, type := _, pos := _, after := _, guard := _ }) (v := ?_) rfl (by kernel_rfl) (by kernel_rfl) (by kernel_rfl) (fun _ _ _ h => h) (Or.inl ⟨by rfl, ?_⟩) (by assumption) ?_
          rotate_left
          · intro w hSw
            try dsimp only at hSw
            go_simp
            try with_reducible rfl
          try simp only [Act.put, List.setIfInBounds_toArray, List.set_cons_zero, List.set_cons_succ]
          refine wpAnyH_take (i := 6) (oi := { dst := some 76, op := _, type := _, pos := _, after := _, guard := _ }) (v := ?_) rfl (by kernel_rfl) (by kernel_rfl) (by kernel_rfl) (fun _ _ _ h => h) (Or.inl ⟨by rfl, ?_⟩) (by assumption) ?_
          rotate_left
          · intro w hSw
            try dsimp only at hSw
            go_simp
            try with_reducible rfl
          try simp only [Act.put, List.setIfInBounds_toArray, List.set_cons_zero, List.set_cons_succ]
          refine wpAnyH_take (i := 7) (oi := { dst := some 77, op := _, type := _, pos := _, after := _, guard := _ }) (v := ?_) rfl (by kernel_rfl) (by kernel_rfl) (by kernel_rfl) (fun _ _ _ h => h) (Or.inl ⟨by rfl, ?_⟩) (by assumption) ?_
          rotate_left
          · intro w hSw
            try dsimp only at hSw
            go_simp
            try with_reducible rfl
          try simp only [Act.put, List.setIfInBounds_toArray, List.set_cons_zero, List.set_cons_succ]
          refine wpAnyH_take (i := 8) (oi := { dst := some 78, op := _, type := _, pos := _, after := _, guard := _ }) (v := ?_) rfl (by kernel_rfl) (by kernel_rfl) (by kernel_rfl) (fun _ _ _ h => h) (Or.inl ⟨by rfl, ?_⟩) (by assumption) ?_
          rotate_left
          · intro w hSw
            try dsimp only at hSw
            go_simp
            try with_reducible rfl
          try simp only [Act.put, List.setIfInBounds_toArray, List.set_cons_zero, List.set_cons_succ]
          refine wpAnyH_take (i := 10) (oi := { dst := some 80, op := _, type := _, pos := _, after := _, guard := _ }) (v := ?_) rfl (by kernel_rfl) (by kernel_rfl) (by kernel_rfl) (fun _ _ _ h => h) (Or.inl ⟨by rfl, ?_⟩) (by assumption) ?_
          rotate_left
          · intro w hSw
            try dsimp only at hSw
            go_simp
            try with_reducible rfl
          try simp only [Act.put, List.setIfInBounds_toArray, List.set_cons_zero, List.set_cons_succ]
          refine wpAnyH_take (i := 13) (oi := { dst := some 83, op := _, type := _, pos := _, after := _, guard := _ }) (v := ?_) rfl (by kernel_rfl) (by kernel_rfl) (by kernel_rfl) (fun _ _ _ h => h) (Or.inl ⟨by rfl, ?_⟩) (by assumption) ?_
          rotate_left
          · intro w hSw
            try dsimp only at hSw
            go_simp
            try with_reducible rfl
          try simp only [Act.put, List.setIfInBounds_toArray, List.set_cons_zero, List.set_cons_succ]
          refine wpAnyH_take (i := 14) (oi := { dst := some 84, op := _, type := _, pos := _, after := _, guard := _ }) (v := ?_) rfl (by kernel_rfl) (by kernel_rfl) (by kernel_rfl) (fun _ _ _ h => h) (Or.inl ⟨by rfl, ?_⟩) (by assumption) ?_
          rotate_left
          · intro w hSw
            try dsimp only at hSw
            go_simp
            try with_reducible rfl
          try simp only [Act.put, List.setIfInBounds_toArray, List.set_cons_zero, List.set_cons_succ]
          refine wpAnyH_ready (rs := [9]) (by kernel_rfl) (by simp) ?_
          refine AllReadyH.cons rfl (fun K hK => ?_) AllReadyH.nil
          go_simp
          refine (format_k a0 a1 a2 ta _ HC.out.1.ok.2 HTA.out).mono ?_
          rintro _ u1 ⟨rfl, hb⟩
          have HC := Lib.hid (And.intro (HC.out.1.step hb) (HC.out.2.step hb))
          clear hb
          go_wp2_with fail
          refine hK.out _ _ ?_ (fun hHeld => ?_)
          · exact HSt.out _ HC.out
          clear hK K
          try simp only [Act.put, List.setIfInBounds_toArray, List.set_cons_zero, List.set_cons_succ]
          refine wpAnyH_ready (rs := [11]) (by kernel_rfl) (by simp) ?_
          refine AllReadyH.cons rfl (fun K hK => ?_) AllReadyH.nil
          go_simp
          refine (format_k b0 b1 b2 tb _ HC.out.1.ok.2 HTB.out).mono ?_
          rintro _ u2 ⟨rfl, hb⟩
          have HC := Lib.hid (And.intro (HC.out.1.step hb) (HC.out.2.step hb))
          clear hb
          go_wp2_with fail
          refine hK.out _ _ ?_ (fun hHeld => ?_)
          · exact HSt.out _ HC.out
          clear hK K
          try simp only [Act.put, List.setIfInBounds_toArray, List.set_cons_zero, List.set_cons_succ]
          refine wpAnyH_ready (rs := [12]) (by kernel_rfl) (by simp) ?_
          refine AllReadyH.cons rfl (fun K hK => ?_) AllReadyH.nil
          go_simp
          refine (sign_k ta tb g _ HSg2.out).mono ?_
          rintro _ u3 ⟨rfl, hb⟩
          subst hb
          go_wp2_with fail
          refine hK.out _ _ ?_ (fun hHeld => ?_)
          · exact HSt.out _ HC.out
          clear hK K
          try simp only [Act.put, List.setIfInBounds_toArray, List.set_cons_zero, List.set_cons_succ]
          refine wpAnyH_ready (rs := [15]) (by kernel_rfl) (by simp) ?_
          refine AllReadyH.cons rfl (fun K hK => ?_) AllReadyH.nil
          go_simp
          refine (cmp_k a0 a1 a2 b0 b1 b2 g _ HCg.out).mono ?_
          rintro _ u4 ⟨rfl, hb⟩
          have HC := Lib.hid (And.intro (HC.out.1.step hb) (HC.out.2.step hb))
          clear hb
          go_wp2_with fail
          refine hK.out _ _ ?_ (fun hHeld => ?_)
          · exact HSt.out _ HC.out
          clear hK K
          try simp only [Act.put, List.setIfInBounds_toArray, List.set_cons_zero, List.set_cons_succ]
          refine wpAnyH_take (i := 16) (oi := { dst := some 86, op := _, type := _, pos := _, after := _, guard := _ }) (v := ?_) rfl (by kernel_rfl) (by kernel_rfl) (by kernel_rfl) (fun _ _ _ h => h) (Or.inl ⟨by rfl, ?_⟩) (by assumption) ?_
          rotate_left
          · intro w hSw
            try dsimp only at hSw
            go_simp
            try with_reducible rfl
          try simp only [Act.put, List.setIfInBounds_toArray, List.set_cons_zero, List.set_cons_succ]
          refine wpAnyH_take (i := 17) (oi := { dst := some 87, op := _, type := _, pos := _, after := _, guard := _ }) (v := ?_) rfl (by kernel_rfl) (by kernel_rfl) (by kernel_rfl) (fun _ _ _ h => h) (Or.inl ⟨by rfl, ?_⟩) (by assumption) ?_
          rotate_left
          · intro w hSw
            try dsimp only at hSw
            go_simp
            try with_reducible rfl
          try simp only [Act.put, List.setIfInBounds_toArray, List.set_cons_zero, List.set_cons_succ]
          refine wpAnyH_take (i := 18) (oi := { dst := some 6, op := _, type := _, pos := _, after := _, guard := _ }) (v := ?_) rfl (by kernel_rfl) (by kernel_rfl) (by kernel_rfl) (fun _ _ _ h => h) (Or.inl ⟨by rfl, ?_⟩) (by assumption) ?_
          rotate_left
          · intro w hSw
            try dsimp only at hSw
            go_simp
            try with_reducible rfl
          try simp only [Act.put, List.setIfInBounds_toArray, List.set_cons_zero, List.set_cons_succ]
          refine wpAnyH_done (by kernel_rfl) ?_ _
          go_wp2_with fail
          go_ret
          exact ⟨rfl, HC.out.1.low⟩
  · have d0 : (300 : Int) < (s.size : Int) := by omega
    have d00 : decide ((300 : Int) < (s.size : Int)) = true := decide_eq_true d0
    go_enter Tryd.func4, Tryd.ntmps4
    go_wp2_with fail
    generalize (w.alloc (.cells #[.int .i64 a0, .int .i64 a1, .int .i64 a2] 23)).alloc (.cells #[.int .i64 b0, .int .i64 b1, .int .i64 b2] 23) = W0 at HG ⊢
    refine (live_s _ HG.out.ok).mono ?_
    rintro _ w1 ⟨rfl, hb⟩
    go_wp2_with fail
    go_ret
    exact ⟨rfl, (HG.out.step hb).low⟩

theorem texts_types : ∀ t ∈ [23, 23, 9], Tryd.prog.readableRec t = true ∧ t < Tryd.prog.types.size := by
  have h : ([23, 23, 9].all fun t => Tryd.prog.readableRec t && decide (t < Tryd.prog.types.size)) = true := by kernel_rfl
  intro t ht
  have := List.all_eq_true.1 h t ht
  simpa using this

set_option maxRecDepth 100000 in
theorem texts_contract (H : Type) (enc : TypeId × Value → H) (W : World) (base : Nat) (args : Array Value) (ds gs : List (DataW H)) (before : List MemPlace)
    (hval : ∀ (j : Nat) t v, Tryd.f4.params[j]? = some t → args[j]? = some v → Value.okWide Tryd.prog W .any base t v)
    (hW : DataW.Whole enc Tryd.prog Tryd.f4.params.toList Rows.csnTextsSpec.vars false W args.toList ds gs before) (hL : laidMetH Tryd.prog Rows.csnTextsRow.laid W) (hsh : W.ShapedOpen Tryd.prog) :
    Calls Tryd.prog 4 args W fun e W' => ∃ v, e = .returned v ∧ Rows.csnTextsSpec.post enc Tryd.prog Tryd.f4 false true false false W args v W' := by
  have hW' := hW
  obtain ⟨p, q, hA0, hV, rfl, hfz, hnd⟩ := hW
  have hA : DataW.TrodAll enc Tryd.prog W 0 (fun _ => true) true Tryd.f4.params.toList args.toList ds p := hA0
  obtain ⟨rfl, rfl⟩ := trodVars_none hV
  simp only [List.append_nil] at hW'
  have hlt : ∀ x ∈ p, x.block < W.heap.size := fun x hx => by simpa using hW'.lt x hx
  have fin : ∀ W', Below W.heap.size W W' → DataW.TrodAll enc Tryd.prog W' 0 (fun b => decide (b < W.heap.size)) true [23, 23, 9] args.toList ds p := fun W' hb => by
    rw [Tryd.params4] at hA
    exact trodAll_below hb _ _ _ _ texts_types hA hlt
  clear hA0
  rw [Tryd.params4] at hA hval
  obtain ⟨v0, vs0, d0, ds0, p0, q0, hargs, rfl, hp0, h0, r0⟩ := trodAll_cons hA
  obtain ⟨v1, vs1, d1, ds1, p1, q1, rfl, rfl, hp1, h1, r1⟩ := trodAll_cons r0
  obtain ⟨v2, vs2, d2, ds2, p2, q2, rfl, rfl, hp2, h2, r2⟩ := trodAll_cons r1
  obtain ⟨rfl, rfl, rfl⟩ := trodAll_nil r2
  obtain rfl : args = #[v0, v1, v2] := by cases args; simp_all
  obtain ⟨a, rfl⟩ := open_cn (hval 0 23 v0 rfl rfl) h0
  obtain ⟨b, rfl⟩ := open_cn (hval 1 23 v1 rfl rfl) h1
  obtain ⟨s, rfl, rfl, rfl, hs2⟩ := open_string Tryd.underlying9 (hval 2 9 v2 rfl rfl) h2
  refine (texts_s a b s W (wok_of hL hsh)).mono fun e W' ⟨he, hb⟩ => ?_
  subst he
  exact ⟨_, rfl, _, _, _, [], p, [], hW', trodAll_mk1 (shut_bool Tryd.underlying4 _), fin W' hb, rfl, hb.frame _, fun h => by cases h⟩

set_option maxRecDepth 100000 in
theorem texts_lifted (os : Os) (started : os.Started) (H : Type) (enc : TypeId × Value → H) (F : Stop.Interp) :
    ReturnsInHanded {} Tryd.checked os 4 .any ((OpenSpec.ofChange Rows.csnTextsSpec).preRow enc Tryd.prog Tryd.f4 Rows.csnTextsRow.domain false Rows.csnTextsRow.laid) (((OpenSpec.ofChange Rows.csnTextsSpec).at F).post enc Tryd.prog Tryd.f4 false true false false) := by
  refine returnsInHanded_of_row (C := Tryd.checked) (s := OpenSpec.ofChange Rows.csnTextsSpec) own started (by kernel_rfl) Tryd.func4
    (witness_row (enc := enc) (C := Tryd.checked) false (World.laidAll Tryd.prog os Rows.csnTextsRow.laid) #[.agg #[.int .i64 0, .int .i64 0, .int .i64 0], .agg #[.int .i64 0, .int .i64 0, .int .i64 0], .string ⟨#[]⟩] (World.laidAll_os _ _ _)
      (World.shaped_of_ZipB (by kernel_rfl) (by kernel_rfl)) (by kernel_rfl)
      (OpenSpec.preRow_of_cond 8 (x := ([.agg [.lit (.int .i64 0), .lit (.int .i64 0), .lit (.int .i64 0)], .agg [.lit (.int .i64 0), .lit (.int .i64 0), .lit (.int .i64 0)], .lit (.string [])], [], [])) (by kernel_rfl) (by kernel_rfl) (fun k hk => by cases hk) (by kernel_rfl)
        (by rw [MakeChecks.laidMetH_plain _ _ _ (by kernel_rfl)]; exact laidMet_laidAll _ (by kernel_rfl) (by kernel_rfl)))) ?_
  intro W base args ds gs before hval hW _ _ _ hL hsh _
  exact texts_contract H enc W base args ds gs before hval hW hL hsh

set_option maxRecDepth 100000 in
theorem texts_said : Rows.CsnTextsSaid :=
  OpenClaim.holds_of_cond 4 Tryd.f4 rfl rfl rfl rfl rfl rfl rfl ⟨rfl, rfl, rfl, rfl, rfl⟩ rfl rfl rfl rfl rfl (by kernel_rfl) Tryd.func4 (by kernel_rfl)
    (of_decide_eq_true (by kernel_rfl)) (by unfold Func.isWrapper; first | (rw [if_pos (by decide +kernel)]; kernel_rfl) | (rw [if_neg (by decide +kernel)]; exact ⟨rfl, rfl⟩))
    (fun os started H enc _ F => by rw [OpenClaim.pre_eq_preRow]; exact texts_lifted os started H enc F)

set_option maxRecDepth 100000 in
theorem texts_plain (f : FuncId) (fn : Func) (hf : Tryd.pinned.checked.prog.funcNamed "identity/identitylaw15.CsnTexts" = some f) (hfn : Tryd.pinned.checked.prog.funcs[f]? = some fn) :
    false = Tryd.pinned.checked.prog.looks [] ∧ ∀ (j : Nat) t, fn.params[j]? = some t → Tryd.pinned.checked.prog.wantsStandIn t = false := by
  obtain rfl : f = 4 := Option.some.inj ((show Tryd.prog.funcNamed "identity/identitylaw15.CsnTexts" = some 4 by kernel_rfl).symm.trans hf) |>.symm
  obtain rfl : fn = Tryd.f4 := (Option.some.inj (Tryd.func4.symm.trans hfn)).symm
  refine ⟨by kernel_rfl, fun j t ht => ?_⟩
  rw [Tryd.params4] at ht
  have hm : t ∈ [23, 23, 9] := by simpa using Array.mem_of_getElem? ht
  have hall : ([23, 23, 9].all fun u => !Tryd.prog.wantsStandIn u) = true := by kernel_rfl
  exact (show Tryd.prog.wantsStandIn t = false by simpa using List.all_eq_true.1 hall t hm)

/-- THE CARD -/
theorem texts_card : Rows.CsnTextsCardSaid :=
  Claim7.holds_tied_plain_at .later [] _ _ _ _ texts_said (fun _ h => by cases h) (by kernel_rfl) (fun _ h => by cases h) csnTexts_row_tie rfl ⟨rfl, rfl⟩ (by kernel_rfl) rfl texts_plain (by kernel_rfl)
end Go.Proofs.YtcnhkoijphfibaaDoor
