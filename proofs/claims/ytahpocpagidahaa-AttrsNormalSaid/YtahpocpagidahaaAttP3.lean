/-
  Contract of attrs.around. Condition: at most 1000 attributes whose names ascend.
-/
import Derived.Test.YtahpocpagidahaaAttP2
import Derived.OwnWalk
set_option linter.unusedVariables false
set_option linter.unusedSimpArgs false
set_option linter.unnecessarySimpa false
namespace Go.Proofs.Ytahpocpagidahaa
open Go.RowKit Go.PlainAid

/-- a list divided at a name -/
structure Parts (T : List Tr) (lw : ByteArray) (B M A : List Tr) (hv : Value) : Prop where
  all : T = B ++ M ++ A
  lo : ∀ t ∈ B, cmpS t.1 lw < 0
  hi : ∀ t ∈ A, cmpS lw t.1 < 0
  mid : (M = [] ∧ hv = .slice none 0 0) ∨ ∃ vs, M = [(lw, hv, vs)]
theorem mem_part {T : List Tr} {i : Nat} {t : Tr} (h : t ∈ T.take i) : ∃ j, j < i ∧ j < T.length ∧ trD T j = t := by
  obtain ⟨j, hj, rfl⟩ := List.mem_take_iff_getElem.1 h
  exact ⟨j, by omega, by omega, tr_get T j (by omega)⟩
theorem mem_rest {T : List Tr} {i : Nat} {t : Tr} (h : t ∈ T.drop i) : ∃ j, i ≤ j ∧ j < T.length ∧ trD T j = t := by
  obtain ⟨j, hj, rfl⟩ := List.mem_drop_iff_getElem.1 h
  exact ⟨i + j, by omega, by omega, by rw [tr_get T (i + j) (by omega)]⟩
theorem parts_none {T : List Tr} {lw : ByteArray} {i : Nat} (hA : Asc ((tats T).map (·.1))) (h : Found T lw i) (hn : ¬ (i < T.length ∧ (trD T i).1 = lw)) : Parts T lw (T.take i) [] (T.drop i) (.slice none 0 0) where
  all := by rw [List.append_nil, List.take_append_drop]
  lo t ht := by obtain ⟨j, h1, h2, rfl⟩ := mem_part ht; exact h.2.1 j h1
  hi t ht := by
    obtain ⟨j, h1, h2, rfl⟩ := mem_rest ht
    have hi' : cmpS lw (trD T i).1 < 0 := by
      have hge : ¬ cmpS (trD T i).1 lw < 0 := h.2.2 i (Nat.le_refl _) (by omega)
      rcases cs_tri (trD T i).1 lw with k | k | k
      · exact absurd k hge
      · exact absurd ⟨by omega, k⟩ hn
      · exact k
    rcases Nat.lt_or_eq_of_le h1 with k | k
    · exact cs_trans hi' (asc_mono hA k h2)
    · subst k; exact hi'
  mid := .inl ⟨rfl, rfl⟩
theorem parts_some {T : List Tr} {lw : ByteArray} {i : Nat} {hd : Value} {vs : List ByteArray} (hA : Asc ((tats T).map (·.1))) (h : Found T lw i) (hi : i < T.length) (e : trD T i = (lw, hd, vs)) : Parts T lw (T.take i) [(lw, hd, vs)] (T.drop (i + 1)) hd where
  all := by
    have h1 : T.take (i + 1) = T.take i ++ [trD T i] := tr_take T i hi
    rw [← e, ← h1, List.take_append_drop]
  lo t ht := by obtain ⟨j, h1, h2, rfl⟩ := mem_part ht; exact h.2.1 j h1
  hi t ht := by
    obtain ⟨j, h1, h2, rfl⟩ := mem_rest ht
    have := asc_mono hA (show i < j by omega) h2
    rw [e] at this
    exact this
  mid := .inr ⟨vs, rfl⟩
theorem ts_cut {w : World} {ao : Option Addr} {n cap : Nat} {T : List Tr} (h : TsAt w ao n cap T) (i : Nat) (hi : i ≤ n) : TsAt w ao i i (T.take i) := by
  obtain ⟨h1, h2, h3, h4⟩ := h
  refine ⟨by rw [List.length_take]; omega, Nat.le_refl _, by omega, fun hn => ?_⟩
  obtain ⟨b, off, e, hb, ha⟩ := h4 (by omega)
  refine ⟨b, off, e, hb, fun j u hj => ha j u ?_⟩
  rw [← tcells_take, List.getElem?_take] at hj
  split at hj
  · exact hj
  · cases hj
theorem ts_rest {w : World} {b off n cap : Nat} {T : List Tr} (h : TsAt w (some ⟨b, off, none⟩) n cap T) (i : Nat) (hi : i ≤ n) : TsAt w (some ⟨b, off + i * 2, none⟩) (n - i) (cap - i) (T.drop i) := by
  obtain ⟨h1, h2, h3, h4⟩ := h
  refine ⟨by rw [List.length_drop]; omega, by omega, by omega, fun hn => ?_⟩
  obtain ⟨b', off', e, hb, ha⟩ := h4 (by omega)
  cases e
  refine ⟨b, off + i * 2, rfl, hb, fun j u hj => ?_⟩
  rw [← tcells_drop T i (by omega), List.getElem?_drop] at hj
  rw [Nat.add_assoc]
  exact ha _ _ hj
theorem ts_none {w : World} {ao bo : Option Addr} {n cap c : Nat} {T : List Tr} (h : TsAt w ao n cap T) (i : Nat) (hi : n ≤ i) (hc : c ≤ maxLen) : TsAt w bo 0 c (T.drop i) := by
  have e : T.drop i = [] := List.drop_of_length_le (by rw [h.1]; exact hi)
  rw [e]
  exact ts_nil w bo c hc
/-- where a part lies -/
def Lies (ao bo : Option Addr) : Prop := ∀ ad, bo = some ad → ∃ b off off', ad = ⟨b, off, none⟩ ∧ ao = some ⟨b, off', none⟩

set_option maxRecDepth 100000 in
set_option maxHeartbeats 8000000 in
theorem around_s (ao : Option Addr) (n cap : Nat) (T : List Tr) (name : ByteArray) (w : World) (h : TsAt w ao n cap T) (hA : Asc ((tats T).map (·.1))) (hn : n ≤ 1000) (hz : ao = none → cap = 0) (hp : ∀ ad, ao = some ad → ad.spot = none) (hns : name.size ≤ 1000000) :
    Calls Try.prog 49 #[.slice ao n cap, .string name] w fun e w' => ∃ (B M A : List Tr) (hv : Value) (bo : Option Addr) (c : Nat), e = .returned (.tuple #[.slice ao B.length B.length, hv, .slice bo A.length c]) ∧
      Parts T (lowS name) B M A hv ∧ TsAt w' ao B.length B.length B ∧ TsAt w' bo A.length c A ∧ Lies ao bo ∧ Below w.heap.size w w' := by
  have hTl : T.length = n := h.1
  have HS0 := Lib.hid (fun lw w1 (hb : Below w.heap.size w w1) => search_s ao n cap T lw w1 (h.below hb) hA hn)
  have HT := Lib.hid h
  have HA := Lib.hid hA
  have hcn : n ≤ cap := h.2.1
  have hcm : cap ≤ 9223372036854775807 := h.2.2.1
  clear h hA
  obtain ⟨lw, hlw⟩ : ∃ x, lowS name = x := ⟨_, rfl⟩
  have HLW := Lib.hid hlw
  rw [hlw]
  clear hlw
  go_enter Try.func49, Try.ntmps49
  go_wp2_with fail
  refine (lower_s name w (by omega)).mono ?_
  rintro e w1 ⟨rfl, hb⟩
  rw [HLW.out]
  have HS := Lib.hid (HS0.out lw w1 hb)
  have HB1 := Lib.hid hb
  clear HS0 hb
  go_wp2_with fail
  refine HS.out.mono ?_
  rintro e w2 ⟨i, rfl, hfd, hb⟩
  have hin : i ≤ n := by rw [← hTl]; exact hfd.1
  have HFD := Lib.hid hfd
  have HB2 := Lib.hid (HB1.out.trans (hb.mono HB1.out.size))
  have HT2 := Lib.hid (HT.out.below HB2.out)
  clear hfd hb HS HB1
  have HBd : Hid (Below w.heap.size w w2.drew) := Lib.hid HB2.out.drew
  have k0 : (0 : Int) ≤ (i : Int) := by omega
  have k1 : (i : Int) ≤ (cap : Int) := by omega
  have k2 : (i : Int) ≤ (n : Int) := by omega
  have hBl : (T.take i).length = i := by rw [List.length_take]; omega
  cases ao with
  | none =>
    have hc0 := hz rfl
    subst hc0
    obtain rfl : n = 0 := by omega
    obtain rfl : i = 0 := by omega
    have hf : decide (0 < 0 ∧ (trD T 0).1 = lw) = false := by simp
    rw [hf]
    have HP := Lib.hid (parts_none (lw := lw) HA.out HFD.out (by omega))
    go_wp2_with fail
    refine wp_region_held_drew (S := fun W => Hid (Below w.heap.size w W)) (by kernel_rfl) (HBd) (fun hS => ?_)
    refine wpAnyH_take (i := 0) (oi := { dst := some 16, op := _, type := _, pos := _, after := _, guard := _ }) (v := ?_) rfl (by kernel_rfl) (by kernel_rfl) (by kernel_rfl) (fun _ _ _ h => h) (Or.inl ⟨by rfl, ?_⟩) (by assumption) ?_
    rotate_left
    · intro w hSw
      try dsimp only at hSw
      go_simp
      try with_reducible rfl
    try simp only [Act.put, List.setIfInBounds_toArray, List.set_cons_zero, List.set_cons_succ]
    refine wpAnyH_take (i := 1) (oi := { dst := some 17, op := _, type := _, pos := _, after := _, guard := _ }) (v := ?_) rfl (by kernel_rfl) (by kernel_rfl) (by kernel_rfl) (fun _ _ _ h => h) (Or.inl ⟨by rfl, ?_⟩) (by assumption) ?_
    rotate_left
    · intro w hSw
      try dsimp only at hSw
      go_simp
      try with_reducible rfl
    try simp only [Act.put, List.setIfInBounds_toArray, List.set_cons_zero, List.set_cons_succ]
    refine wpAnyH_take (i := 2) (oi := { dst := some 18, op := _, type := _, pos := _, after := _, guard := _ }) (v := ?_) rfl (by kernel_rfl) (by kernel_rfl) (by kernel_rfl) (fun _ _ _ h => h) (Or.inl ⟨by rfl, ?_⟩) (by assumption) ?_
    rotate_left
    · intro w hSw
      try dsimp only at hSw
      go_simp
      try with_reducible rfl
    try simp only [Act.put, List.setIfInBounds_toArray, List.set_cons_zero, List.set_cons_succ]
    refine wpAnyH_take (i := 3) (oi := { dst := some 19, op := _, type := _, pos := _, after := _, guard := _ }) (v := ?_) rfl (by kernel_rfl) (by kernel_rfl) (by kernel_rfl) (fun _ _ _ h => h) (Or.inl ⟨by rfl, ?_⟩) (by assumption) ?_
    rotate_left
    · intro w hSw
      try dsimp only at hSw
      go_simp
      try with_reducible rfl
    try simp only [Act.put, List.setIfInBounds_toArray, List.set_cons_zero, List.set_cons_succ]
    refine wpAnyH_take (i := 4) (oi := { dst := some 20, op := _, type := _, pos := _, after := _, guard := _ }) (v := ?_) rfl (by kernel_rfl) (by kernel_rfl) (by kernel_rfl) (fun _ _ _ h => h) (Or.inl ⟨by rfl, ?_⟩) (by assumption) ?_
    rotate_left
    · intro w hSw
      try dsimp only at hSw
      go_simp
      try with_reducible rfl
    try simp only [Act.put, List.setIfInBounds_toArray, List.set_cons_zero, List.set_cons_succ]
    refine wpAnyH_take (i := 5) (oi := { dst := some 21, op := _, type := _, pos := _, after := _, guard := _ }) (v := ?_) rfl (by kernel_rfl) (by kernel_rfl) (by kernel_rfl) (fun _ _ _ h => h) (Or.inl ⟨by rfl, ?_⟩) (by assumption) ?_
    rotate_left
    · intro w hSw
      try dsimp only at hSw
      go_simp
      try with_reducible rfl
    try simp only [Act.put, List.setIfInBounds_toArray, List.set_cons_zero, List.set_cons_succ]
    refine wpAnyH_take (i := 6) (oi := { dst := some 22, op := _, type := _, pos := _, after := _, guard := _ }) (v := ?_) rfl (by kernel_rfl) (by kernel_rfl) (by kernel_rfl) (fun _ _ _ h => h) (Or.inl ⟨by rfl, ?_⟩) (by assumption) ?_
    rotate_left
    · intro w hSw
      try dsimp only at hSw
      go_simp
      try with_reducible rfl
    try simp only [Act.put, List.setIfInBounds_toArray, List.set_cons_zero, List.set_cons_succ]
    refine wpAnyH_take (i := 7) (oi := { dst := some 4, op := _, type := _, pos := _, after := _, guard := _ }) (v := ?_) rfl (by kernel_rfl) (by kernel_rfl) (by kernel_rfl) (fun _ _ _ h => h) (Or.inl ⟨by rfl, ?_⟩) (by assumption) ?_
    rotate_left
    · intro w hSw
      try dsimp only at hSw
      go_simp
      try with_reducible rfl
    try simp only [Act.put, List.setIfInBounds_toArray, List.set_cons_zero, List.set_cons_succ]
    refine wpAnyH_take (i := 8) (oi := { dst := some 6, op := _, type := _, pos := _, after := _, guard := _ }) (v := ?_) rfl (by kernel_rfl) (by kernel_rfl) (by kernel_rfl) (fun _ _ _ h => h) (Or.inl ⟨by rfl, ?_⟩) (by assumption) ?_
    rotate_left
    · intro w hSw
      try dsimp only at hSw
      go_simp
      try with_reducible rfl
    try simp only [Act.put, List.setIfInBounds_toArray, List.set_cons_zero, List.set_cons_succ]
    refine wpAnyH_done (by kernel_rfl) ?_ _
    go_wp2_with fail
    go_ret3
    have hT0 : T = [] := List.length_eq_zero_iff.1 hTl
    subst hT0
    exact ⟨[], [], [], _, none, 0, rfl, HP.out, ts_nil _ _ _ (by unfold maxLen; omega), ts_nil _ _ _ (by unfold maxLen; omega), (fun ad e => by cases e), HBd.out⟩
  | some ad =>
    have hsp := hp ad rfl
    obtain ⟨b, off, spot⟩ := ad
    simp only at hsp
    subst hsp
    have hT2d : Hid (TsAt w2.drew (some ⟨b, off, none⟩) n cap T) := Lib.hid (HT2.out.below (Below.refl _ w2).drew)
    have HTB := Lib.hid (ts_cut hT2d.out i hin)
    by_cases hic : i < cap
    · have k3 : (i : Int) < (cap : Int) := by omega
      have k4 : ¬ cap = i := by omega
      by_cases hfo : i < n ∧ (trD T i).1 = lw
      · have hf : decide (i < n ∧ (trD T i).1 = lw) = true := decide_eq_true hfo
        rw [hf]
        obtain ⟨hfi, hfe⟩ := hfo
        obtain ⟨a0, a1⟩ := ts_at hT2d.out i hfi
        obtain ⟨x, hx⟩ : ∃ x, trD T i = x := ⟨_, rfl⟩
        rw [hx] at a1 hfe
        have HX := Lib.hid hx
        clear hx a0
        obtain ⟨p, hd, vs⟩ := x
        simp only [] at a1 hfe
        subst hfe
        have HP := Lib.hid (parts_some HA.out HFD.out (by omega) HX.out)
        have HTA := Lib.hid (ts_rest hT2d.out (i + 1) (by omega))
        have HTN := Lib.hid (fun (bo : Option Addr) (c : Nat) => ts_none (bo := bo) (c := c) hT2d.out (i + 1))
        have hAl : (T.drop (i + 1)).length = n - (i + 1) := by rw [List.length_drop]; omega
        go_wp2_with fail
        refine wp_region_held_drew (S := fun W => Hid (Below w.heap.size w W)) (by kernel_rfl) (HBd) (fun hS => ?_)
        refine wpAnyH_take (i := 0) (oi := { dst := some 16, op := _, type := _, pos := _, after := _, guard := _ }) (v := ?_) rfl (by kernel_rfl) (by kernel_rfl) (by kernel_rfl) (fun _ _ _ h => h) (Or.inl ⟨by rfl, ?_⟩) (by assumption) ?_
        rotate_left
        · intro w hSw
          try dsimp only at hSw
          go_simp
          try with_reducible rfl
        try simp only [Act.put, List.setIfInBounds_toArray, List.set_cons_zero, List.set_cons_succ]
        refine wpAnyH_take (i := 1) (oi := { dst := some 17, op := _, type := _, pos := _, after := _, guard := _ }) (v := ?_) rfl (by kernel_rfl) (by kernel_rfl) (by kernel_rfl) (fun _ _ _ h => h) (Or.inl ⟨by rfl, ?_⟩) (by assumption) ?_
        rotate_left
        · intro w hSw
          try dsimp only at hSw
          go_simp
          try with_reducible rfl
        try simp only [Act.put, List.setIfInBounds_toArray, List.set_cons_zero, List.set_cons_succ]
        refine wpAnyH_take (i := 2) (oi := { dst := some 18, op := _, type := _, pos := _, after := _, guard := _ }) (v := ?_) rfl (by kernel_rfl) (by kernel_rfl) (by kernel_rfl) (fun _ _ _ h => h) (Or.inl ⟨by rfl, ?_⟩) (by assumption) ?_
        rotate_left
        · intro w hSw
          try dsimp only at hSw
          go_simp
          try with_reducible rfl
        try simp only [Act.put, List.setIfInBounds_toArray, List.set_cons_zero, List.set_cons_succ]
        refine wpAnyH_take (i := 3) (oi := { dst := some 19, op := _, type := _, pos := _, after := _, guard := _ }) (v := ?_) rfl (by kernel_rfl) (by kernel_rfl) (by kernel_rfl) (fun _ _ _ h => h) (Or.inl ⟨by rfl, ?_⟩) (by assumption) ?_
        rotate_left
        · intro w hSw
          try dsimp only at hSw
          go_simp
          try with_reducible rfl
        try simp only [Act.put, List.setIfInBounds_toArray, List.set_cons_zero, List.set_cons_succ]
        refine wpAnyH_take (i := 4) (oi := { dst := some 20, op := _, type := _, pos := _, after := _, guard := _ }) (v := ?_) rfl (by kernel_rfl) (by kernel_rfl) (by kernel_rfl) (fun _ _ _ h => h) (Or.inl ⟨by rfl, ?_⟩) (by assumption) ?_
        rotate_left
        · intro w hSw
          try dsimp only at hSw
          go_simp
          try with_reducible rfl
        try simp only [Act.put, List.setIfInBounds_toArray, List.set_cons_zero, List.set_cons_succ]
        refine wpAnyH_take (i := 5) (oi := { dst := some 21, op := _, type := _, pos := _, after := _, guard := _ }) (v := ?_) rfl (by kernel_rfl) (by kernel_rfl) (by kernel_rfl) (fun _ _ _ h => h) (Or.inl ⟨by rfl, ?_⟩) (by assumption) ?_
        rotate_left
        · intro w hSw
          try dsimp only at hSw
          go_simp
          try with_reducible rfl
        try simp only [Act.put, List.setIfInBounds_toArray, List.set_cons_zero, List.set_cons_succ]
        refine wpAnyH_take (i := 6) (oi := { dst := some 22, op := _, type := _, pos := _, after := _, guard := _ }) (v := ?_) rfl (by kernel_rfl) (by kernel_rfl) (by kernel_rfl) (fun _ _ _ h => h) (Or.inl ⟨by rfl, ?_⟩) (by assumption) ?_
        rotate_left
        · intro w hSw
          try dsimp only at hSw
          go_simp
          try with_reducible rfl
        try simp only [Act.put, List.setIfInBounds_toArray, List.set_cons_zero, List.set_cons_succ]
        refine wpAnyH_take (i := 7) (oi := { dst := some 4, op := _, type := _, pos := _, after := _, guard := _ }) (v := ?_) rfl (by kernel_rfl) (by kernel_rfl) (by kernel_rfl) (fun _ _ _ h => h) (Or.inl ⟨by rfl, ?_⟩) (by assumption) ?_
        rotate_left
        · intro w hSw
          try dsimp only at hSw
          go_simp
          try with_reducible rfl
        try simp only [Act.put, List.setIfInBounds_toArray, List.set_cons_zero, List.set_cons_succ]
        refine wpAnyH_take (i := 8) (oi := { dst := some 6, op := _, type := _, pos := _, after := _, guard := _ }) (v := ?_) rfl (by kernel_rfl) (by kernel_rfl) (by kernel_rfl) (fun _ _ _ h => h) (Or.inl ⟨by rfl, ?_⟩) (by assumption) ?_
        rotate_left
        · intro w hSw
          try dsimp only at hSw
          go_simp
          try with_reducible rfl
        try simp only [Act.put, List.setIfInBounds_toArray, List.set_cons_zero, List.set_cons_succ]
        refine wpAnyH_done (by kernel_rfl) ?_ _
        obtain ⟨m, hm⟩ : ∃ x, n - i = x := ⟨_, rfl⟩
        obtain ⟨c, hc⟩ : ∃ x, cap - i = x := ⟨_, rfl⟩
        have hm0 : 0 < m := by omega
        have hmc : m ≤ c := by omega
        have m1 : (0 : Int) < (m : Int) := by omega
        have m2 : (1 : Int) ≤ (m : Int) := by omega
        have m3 : (1 : Int) ≤ (c : Int) := by omega
        have hcb : c ≤ 9223372036854775807 := by omega
        have a1d : w2.drew.drew.cell? ⟨b, off + i * 2 + 1, none⟩ = some hd := a1
        have HBdd : Hid (Below w.heap.size w w2.drew.drew) := Lib.hid HBd.out.drew
        by_cases hc1 : c = 1
        · subst hc1
          have hAl2 : (T.drop (i + 1)).length = 0 := by omega
          go_wp2_with fail
          rw [hm, hc]
          refine wp_region_held_drew (S := fun W => W.cell? ⟨b, off + i * 2 + 1, none⟩ = some hd ∧ Hid (Below w.heap.size w W)) (by kernel_rfl) (⟨a1d, HBdd⟩) (fun hS => ?_)
          refine wpAnyH_take (i := 0) (oi := { dst := some 24, op := _, type := _, pos := _, after := _, guard := _ }) (v := ?_) rfl (by kernel_rfl) (by kernel_rfl) (by kernel_rfl) (fun _ _ _ h => h) (Or.inl ⟨by rfl, ?_⟩) (by assumption) ?_
          rotate_left
          · intro w hSw
            try dsimp only at hSw
            go_simp
            try with_reducible rfl
          try simp only [Act.put, List.setIfInBounds_toArray, List.set_cons_zero, List.set_cons_succ]
          refine wpAnyH_take (i := 1) (oi := { dst := some 25, op := _, type := _, pos := _, after := _, guard := _ }) (v := ?_) rfl (by kernel_rfl) (by kernel_rfl) (by kernel_rfl) (fun _ _ _ h => h) (Or.inl ⟨by rfl, ?_⟩) (by assumption) ?_
          rotate_left
          · intro w hSw
            try dsimp only at hSw
            go_simp
            try with_reducible rfl
          try simp only [Act.put, List.setIfInBounds_toArray, List.set_cons_zero, List.set_cons_succ]
          refine wpAnyH_take (i := 2) (oi := { dst := some 26, op := _, type := _, pos := _, after := _, guard := _ }) (v := ?_) rfl (by kernel_rfl) (by kernel_rfl) (by kernel_rfl) (fun _ _ _ h => h) (Or.inl ⟨by rfl, ?_⟩) (by assumption) ?_
          rotate_left
          · intro w hSw
            try dsimp only at hSw
            go_simp
            try with_reducible rfl
          try simp only [Act.put, List.setIfInBounds_toArray, List.set_cons_zero, List.set_cons_succ]
          refine wpAnyH_take (i := 3) (oi := { dst := some 27, op := _, type := _, pos := _, after := _, guard := _ }) (v := ?_) rfl (by kernel_rfl) (by kernel_rfl) (by kernel_rfl) (fun _ _ _ h => h) (Or.inl ⟨by rfl, ?_⟩) (by assumption) ?_
          rotate_left
          · intro w hSw
            try dsimp only at hSw
            go_simp
            try with_reducible rfl
          try simp only [Act.put, List.setIfInBounds_toArray, List.set_cons_zero, List.set_cons_succ]
          refine wpAnyH_take (i := 4) (oi := { dst := some 28, op := _, type := _, pos := _, after := _, guard := _ }) (v := ?_) rfl (by kernel_rfl) (by kernel_rfl) (by kernel_rfl) (fun _ _ _ h => h) (Or.inl ⟨by rfl, ?_⟩) (by assumption) ?_
          rotate_left
          · intro w hSw
            try dsimp only at hSw
            go_simp
            try with_reducible rfl
          try simp only [Act.put, List.setIfInBounds_toArray, List.set_cons_zero, List.set_cons_succ]
          refine wpAnyH_take (i := 5) (oi := { dst := some 29, op := _, type := _, pos := _, after := _, guard := _ }) (v := ?_) rfl (by kernel_rfl) (by kernel_rfl) (by kernel_rfl) (fun _ _ _ h => h) (Or.inl ⟨by rfl, ?_⟩) (by assumption) ?_
          rotate_left
          · intro w hSw
            try dsimp only at hSw
            go_simp
            try with_reducible rfl
          try simp only [Act.put, List.setIfInBounds_toArray, List.set_cons_zero, List.set_cons_succ]
          refine wpAnyH_take (i := 6) (oi := { dst := some 5, op := _, type := _, pos := _, after := _, guard := _ }) (v := ?_) rfl (by kernel_rfl) (by kernel_rfl) (by kernel_rfl) (fun _ _ _ h => h) (Or.inl ⟨by rfl, ?_⟩) (by assumption) ?_
          rotate_left
          · intro w hSw
            try dsimp only at hSw
            go_simp
            try with_reducible rfl
          try simp only [Act.put, List.setIfInBounds_toArray, List.set_cons_zero, List.set_cons_succ]
          refine wpAnyH_take (i := 7) (oi := { dst := some 6, op := _, type := _, pos := _, after := _, guard := _ }) (v := ?_) rfl (by kernel_rfl) (by kernel_rfl) (by kernel_rfl) (fun _ _ _ h => h) (Or.inl ⟨by rfl, ?_⟩) (by assumption) ?_
          rotate_left
          · intro w hSw
            try dsimp only at hSw
            go_simp
            try with_reducible rfl
          try simp only [Act.put, List.setIfInBounds_toArray, List.set_cons_zero, List.set_cons_succ]
          refine wpAnyH_done (by kernel_rfl) ?_ _
          go_wp2_with fail
          go_ret3
          have hTN := HTN.out (some ⟨b, off + i * 2, none⟩) 0 (by omega) (by unfold maxLen; omega)
          have hmm : m - 1 = 0 := by omega
          exact ⟨T.take i, [(p, hd, vs)], T.drop (i + 1), hd, some ⟨b, off + i * 2, none⟩, 0, by rw [hBl, hAl2, ← hmm]; rfl, HP.out, by rw [hBl]; exact HTB.out, by rw [hAl2]; exact hTN, fun ad e => by cases e; exact ⟨b, off + i * 2, off, rfl, rfl⟩, HBdd.out⟩
        · have m4 : (1 : Int) < (c : Int) := by omega
          have m5 : ¬ c = 1 := hc1
          go_wp2_with fail
          rw [hm, hc]
          refine wp_region_held_drew (S := fun W => W.cell? ⟨b, off + i * 2 + 1, none⟩ = some hd ∧ Hid (Below w.heap.size w W)) (by kernel_rfl) (⟨a1d, HBdd⟩) (fun hS => ?_)
          refine wpAnyH_take (i := 0) (oi := { dst := some 24, op := _, type := _, pos := _, after := _, guard := _ }) (v := ?_) rfl (by kernel_rfl) (by kernel_rfl) (by kernel_rfl) (fun _ _ _ h => h) (Or.inl ⟨by rfl, ?_⟩) (by assumption) ?_
          rotate_left
          · intro w hSw
            try dsimp only at hSw
            go_simp
            try with_reducible rfl
          try simp only [Act.put, List.setIfInBounds_toArray, List.set_cons_zero, List.set_cons_succ]
          refine wpAnyH_take (i := 1) (oi := { dst := some 25, op := _, type := _, pos := _, after := _, guard := _ }) (v := ?_) rfl (by kernel_rfl) (by kernel_rfl) (by kernel_rfl) (fun _ _ _ h => h) (Or.inl ⟨by rfl, ?_⟩) (by assumption) ?_
          rotate_left
          · intro w hSw
            try dsimp only at hSw
            go_simp
            try with_reducible rfl
          try simp only [Act.put, List.setIfInBounds_toArray, List.set_cons_zero, List.set_cons_succ]
          refine wpAnyH_take (i := 2) (oi := { dst := some 26, op := _, type := _, pos := _, after := _, guard := _ }) (v := ?_) rfl (by kernel_rfl) (by kernel_rfl) (by kernel_rfl) (fun _ _ _ h => h) (Or.inl ⟨by rfl, ?_⟩) (by assumption) ?_
          rotate_left
          · intro w hSw
            try dsimp only at hSw
            go_simp
            try with_reducible rfl
          try simp only [Act.put, List.setIfInBounds_toArray, List.set_cons_zero, List.set_cons_succ]
          refine wpAnyH_take (i := 3) (oi := { dst := some 27, op := _, type := _, pos := _, after := _, guard := _ }) (v := ?_) rfl (by kernel_rfl) (by kernel_rfl) (by kernel_rfl) (fun _ _ _ h => h) (Or.inl ⟨by rfl, ?_⟩) (by assumption) ?_
          rotate_left
          · intro w hSw
            try dsimp only at hSw
            go_simp
            try with_reducible rfl
          try simp only [Act.put, List.setIfInBounds_toArray, List.set_cons_zero, List.set_cons_succ]
          refine wpAnyH_take (i := 4) (oi := { dst := some 28, op := _, type := _, pos := _, after := _, guard := _ }) (v := ?_) rfl (by kernel_rfl) (by kernel_rfl) (by kernel_rfl) (fun _ _ _ h => h) (Or.inl ⟨by rfl, ?_⟩) (by assumption) ?_
          rotate_left
          · intro w hSw
            try dsimp only at hSw
            go_simp
            try with_reducible rfl
          try simp only [Act.put, List.setIfInBounds_toArray, List.set_cons_zero, List.set_cons_succ]
          refine wpAnyH_take (i := 5) (oi := { dst := some 29, op := _, type := _, pos := _, after := _, guard := _ }) (v := ?_) rfl (by kernel_rfl) (by kernel_rfl) (by kernel_rfl) (fun _ _ _ h => h) (Or.inl ⟨by rfl, ?_⟩) (by assumption) ?_
          rotate_left
          · intro w hSw
            try dsimp only at hSw
            go_simp
            try with_reducible rfl
          try simp only [Act.put, List.setIfInBounds_toArray, List.set_cons_zero, List.set_cons_succ]
          refine wpAnyH_take (i := 6) (oi := { dst := some 5, op := _, type := _, pos := _, after := _, guard := _ }) (v := ?_) rfl (by kernel_rfl) (by kernel_rfl) (by kernel_rfl) (fun _ _ _ h => h) (Or.inl ⟨by rfl, ?_⟩) (by assumption) ?_
          rotate_left
          · intro w hSw
            try dsimp only at hSw
            go_simp
            try with_reducible rfl
          try simp only [Act.put, List.setIfInBounds_toArray, List.set_cons_zero, List.set_cons_succ]
          refine wpAnyH_take (i := 7) (oi := { dst := some 6, op := _, type := _, pos := _, after := _, guard := _ }) (v := ?_) rfl (by kernel_rfl) (by kernel_rfl) (by kernel_rfl) (fun _ _ _ h => h) (Or.inl ⟨by rfl, ?_⟩) (by assumption) ?_
          rotate_left
          · intro w hSw
            try dsimp only at hSw
            go_simp
            try with_reducible rfl
          try simp only [Act.put, List.setIfInBounds_toArray, List.set_cons_zero, List.set_cons_succ]
          refine wpAnyH_done (by kernel_rfl) ?_ _
          go_wp2_with fail
          go_ret3
          have e1 : n - (i + 1) = m - 1 := by omega
          have e2 : cap - (i + 1) = c - 1 := by omega
          have e3 : off + (i + 1) * 2 = off + i * 2 + 2 := by omega
          have hTA := HTA.out
          rw [e1, e2, e3] at hTA
          rw [e1] at hAl
          exact ⟨T.take i, [(p, hd, vs)], T.drop (i + 1), hd, some ⟨b, off + i * 2 + 2, none⟩, c - 1, by rw [hBl, hAl]; rfl, HP.out, by rw [hBl]; exact HTB.out, by rw [hAl]; exact hTA, fun ad e => by cases e; exact ⟨b, off + i * 2 + 2, off, rfl, rfl⟩, HBdd.out⟩
      · have hf : decide (i < n ∧ (trD T i).1 = lw) = false := decide_eq_false hfo
        rw [hf]
        have HP := Lib.hid (parts_none (lw := lw) HA.out HFD.out (by rw [hTl]; exact hfo))
        have HTA := Lib.hid (ts_rest hT2d.out i hin)
        have hAl : (T.drop i).length = n - i := by rw [List.length_drop]; omega
        go_wp2_with fail
        refine wp_region_held_drew (S := fun W => Hid (Below w.heap.size w W)) (by kernel_rfl) (HBd) (fun hS => ?_)
        refine wpAnyH_take (i := 0) (oi := { dst := some 16, op := _, type := _, pos := _, after := _, guard := _ }) (v := ?_) rfl (by kernel_rfl) (by kernel_rfl) (by kernel_rfl) (fun _ _ _ h => h) (Or.inl ⟨by rfl, ?_⟩) (by assumption) ?_
        rotate_left
        · intro w hSw
          try dsimp only at hSw
          go_simp
          try with_reducible rfl
        try simp only [Act.put, List.setIfInBounds_toArray, List.set_cons_zero, List.set_cons_succ]
        refine wpAnyH_take (i := 1) (oi := { dst := some 17, op := _, type := _, pos := _, after := _, guard := _ }) (v := ?_) rfl (by kernel_rfl) (by kernel_rfl) (by kernel_rfl) (fun _ _ _ h => h) (Or.inl ⟨by rfl, ?_⟩) (by assumption) ?_
        rotate_left
        · intro w hSw
          try dsimp only at hSw
          go_simp
          try with_reducible rfl
        try simp only [Act.put, List.setIfInBounds_toArray, List.set_cons_zero, List.set_cons_succ]
        refine wpAnyH_take (i := 2) (oi := { dst := some 18, op := _, type := _, pos := _, after := _, guard := _ }) (v := ?_) rfl (by kernel_rfl) (by kernel_rfl) (by kernel_rfl) (fun _ _ _ h => h) (Or.inl ⟨by rfl, ?_⟩) (by assumption) ?_
        rotate_left
        · intro w hSw
          try dsimp only at hSw
          go_simp
          try with_reducible rfl
        try simp only [Act.put, List.setIfInBounds_toArray, List.set_cons_zero, List.set_cons_succ]
        refine wpAnyH_take (i := 3) (oi := { dst := some 19, op := _, type := _, pos := _, after := _, guard := _ }) (v := ?_) rfl (by kernel_rfl) (by kernel_rfl) (by kernel_rfl) (fun _ _ _ h => h) (Or.inl ⟨by rfl, ?_⟩) (by assumption) ?_
        rotate_left
        · intro w hSw
          try dsimp only at hSw
          go_simp
          try with_reducible rfl
        try simp only [Act.put, List.setIfInBounds_toArray, List.set_cons_zero, List.set_cons_succ]
        refine wpAnyH_take (i := 4) (oi := { dst := some 20, op := _, type := _, pos := _, after := _, guard := _ }) (v := ?_) rfl (by kernel_rfl) (by kernel_rfl) (by kernel_rfl) (fun _ _ _ h => h) (Or.inl ⟨by rfl, ?_⟩) (by assumption) ?_
        rotate_left
        · intro w hSw
          try dsimp only at hSw
          go_simp
          try with_reducible rfl
        try simp only [Act.put, List.setIfInBounds_toArray, List.set_cons_zero, List.set_cons_succ]
        refine wpAnyH_take (i := 5) (oi := { dst := some 21, op := _, type := _, pos := _, after := _, guard := _ }) (v := ?_) rfl (by kernel_rfl) (by kernel_rfl) (by kernel_rfl) (fun _ _ _ h => h) (Or.inl ⟨by rfl, ?_⟩) (by assumption) ?_
        rotate_left
        · intro w hSw
          try dsimp only at hSw
          go_simp
          try with_reducible rfl
        try simp only [Act.put, List.setIfInBounds_toArray, List.set_cons_zero, List.set_cons_succ]
        refine wpAnyH_take (i := 6) (oi := { dst := some 22, op := _, type := _, pos := _, after := _, guard := _ }) (v := ?_) rfl (by kernel_rfl) (by kernel_rfl) (by kernel_rfl) (fun _ _ _ h => h) (Or.inl ⟨by rfl, ?_⟩) (by assumption) ?_
        rotate_left
        · intro w hSw
          try dsimp only at hSw
          go_simp
          try with_reducible rfl
        try simp only [Act.put, List.setIfInBounds_toArray, List.set_cons_zero, List.set_cons_succ]
        refine wpAnyH_take (i := 7) (oi := { dst := some 4, op := _, type := _, pos := _, after := _, guard := _ }) (v := ?_) rfl (by kernel_rfl) (by kernel_rfl) (by kernel_rfl) (fun _ _ _ h => h) (Or.inl ⟨by rfl, ?_⟩) (by assumption) ?_
        rotate_left
        · intro w hSw
          try dsimp only at hSw
          go_simp
          try with_reducible rfl
        try simp only [Act.put, List.setIfInBounds_toArray, List.set_cons_zero, List.set_cons_succ]
        refine wpAnyH_take (i := 8) (oi := { dst := some 6, op := _, type := _, pos := _, after := _, guard := _ }) (v := ?_) rfl (by kernel_rfl) (by kernel_rfl) (by kernel_rfl) (fun _ _ _ h => h) (Or.inl ⟨by rfl, ?_⟩) (by assumption) ?_
        rotate_left
        · intro w hSw
          try dsimp only at hSw
          go_simp
          try with_reducible rfl
        try simp only [Act.put, List.setIfInBounds_toArray, List.set_cons_zero, List.set_cons_succ]
        refine wpAnyH_done (by kernel_rfl) ?_ _
        go_wp2_with fail
        go_ret3
        exact ⟨T.take i, [], T.drop i, _, some ⟨b, off + i * 2, none⟩, cap - i, by rw [hBl, hAl]; rfl, HP.out, by rw [hBl]; exact HTB.out, by rw [hAl]; exact HTA.out, fun ad e => by cases e; exact ⟨b, off + i * 2, off, rfl, rfl⟩, HBd.out⟩
    · obtain rfl : cap = i := by omega
      obtain rfl : n = cap := by omega
      have hf : decide (n < n ∧ (trD T n).1 = lw) = false := by simp
      rw [hf]
      have HP := Lib.hid (parts_none (lw := lw) HA.out HFD.out (by omega))
      have HTN := Lib.hid (ts_none (bo := some ⟨b, off, none⟩) (c := 0) hT2d.out n (Nat.le_refl _) (by unfold maxLen; omega))
      have hAl : (T.drop n).length = 0 := by rw [List.length_drop]; omega
      go_wp2_with fail
      refine wp_region_held_drew (S := fun W => Hid (Below w.heap.size w W)) (by kernel_rfl) (HBd) (fun hS => ?_)
      refine wpAnyH_take (i := 0) (oi := { dst := some 16, op := _, type := _, pos := _, after := _, guard := _ }) (v := ?_) rfl (by kernel_rfl) (by kernel_rfl) (by kernel_rfl) (fun _ _ _ h => h) (Or.inl ⟨by rfl, ?_⟩) (by assumption) ?_
      rotate_left
      · intro w hSw
        try dsimp only at hSw
        go_simp
        try with_reducible rfl
      try simp only [Act.put, List.setIfInBounds_toArray, List.set_cons_zero, List.set_cons_succ]
      refine wpAnyH_take (i := 1) (oi := { dst := some 17, op := _, type := _, pos := _, after := _, guard := _ }) (v := ?_) rfl (by kernel_rfl) (by kernel_rfl) (by kernel_rfl) (fun _ _ _ h => h) (Or.inl ⟨by rfl, ?_⟩) (by assumption) ?_
      rotate_left
      · intro w hSw
        try dsimp only at hSw
        go_simp
        try with_reducible rfl
      try simp only [Act.put, List.setIfInBounds_toArray, List.set_cons_zero, List.set_cons_succ]
      refine wpAnyH_take (i := 2) (oi := { dst := some 18, op := _, type := _, pos := _, after := _, guard := _ }) (v := ?_) rfl (by kernel_rfl) (by kernel_rfl) (by kernel_rfl) (fun _ _ _ h => h) (Or.inl ⟨by rfl, ?_⟩) (by assumption) ?_
      rotate_left
      · intro w hSw
        try dsimp only at hSw
        go_simp
        try with_reducible rfl
      try simp only [Act.put, List.setIfInBounds_toArray, List.set_cons_zero, List.set_cons_succ]
      refine wpAnyH_take (i := 3) (oi := { dst := some 19, op := _, type := _, pos := _, after := _, guard := _ }) (v := ?_) rfl (by kernel_rfl) (by kernel_rfl) (by kernel_rfl) (fun _ _ _ h => h) (Or.inl ⟨by rfl, ?_⟩) (by assumption) ?_
      rotate_left
      · intro w hSw
        try dsimp only at hSw
        go_simp
        try with_reducible rfl
      try simp only [Act.put, List.setIfInBounds_toArray, List.set_cons_zero, List.set_cons_succ]
      refine wpAnyH_take (i := 4) (oi := { dst := some 20, op := _, type := _, pos := _, after := _, guard := _ }) (v := ?_) rfl (by kernel_rfl) (by kernel_rfl) (by kernel_rfl) (fun _ _ _ h => h) (Or.inl ⟨by rfl, ?_⟩) (by assumption) ?_
      rotate_left
      · intro w hSw
        try dsimp only at hSw
        go_simp
        try with_reducible rfl
      try simp only [Act.put, List.setIfInBounds_toArray, List.set_cons_zero, List.set_cons_succ]
      refine wpAnyH_take (i := 5) (oi := { dst := some 21, op := _, type := _, pos := _, after := _, guard := _ }) (v := ?_) rfl (by kernel_rfl) (by kernel_rfl) (by kernel_rfl) (fun _ _ _ h => h) (Or.inl ⟨by rfl, ?_⟩) (by assumption) ?_
      rotate_left
      · intro w hSw
        try dsimp only at hSw
        go_simp
        try with_reducible rfl
      try simp only [Act.put, List.setIfInBounds_toArray, List.set_cons_zero, List.set_cons_succ]
      refine wpAnyH_take (i := 6) (oi := { dst := some 22, op := _, type := _, pos := _, after := _, guard := _ }) (v := ?_) rfl (by kernel_rfl) (by kernel_rfl) (by kernel_rfl) (fun _ _ _ h => h) (Or.inl ⟨by rfl, ?_⟩) (by assumption) ?_
      rotate_left
      · intro w hSw
        try dsimp only at hSw
        go_simp
        try with_reducible rfl
      try simp only [Act.put, List.setIfInBounds_toArray, List.set_cons_zero, List.set_cons_succ]
      refine wpAnyH_take (i := 7) (oi := { dst := some 4, op := _, type := _, pos := _, after := _, guard := _ }) (v := ?_) rfl (by kernel_rfl) (by kernel_rfl) (by kernel_rfl) (fun _ _ _ h => h) (Or.inl ⟨by rfl, ?_⟩) (by assumption) ?_
      rotate_left
      · intro w hSw
        try dsimp only at hSw
        go_simp
        try with_reducible rfl
      try simp only [Act.put, List.setIfInBounds_toArray, List.set_cons_zero, List.set_cons_succ]
      refine wpAnyH_take (i := 8) (oi := { dst := some 6, op := _, type := _, pos := _, after := _, guard := _ }) (v := ?_) rfl (by kernel_rfl) (by kernel_rfl) (by kernel_rfl) (fun _ _ _ h => h) (Or.inl ⟨by rfl, ?_⟩) (by assumption) ?_
      rotate_left
      · intro w hSw
        try dsimp only at hSw
        go_simp
        try with_reducible rfl
      try simp only [Act.put, List.setIfInBounds_toArray, List.set_cons_zero, List.set_cons_succ]
      refine wpAnyH_done (by kernel_rfl) ?_ _
      go_wp2_with fail
      go_ret3
      exact ⟨T.take n, [], T.drop n, _, some ⟨b, off, none⟩, 0, by rw [hBl, hAl]; rfl, HP.out, by rw [hBl]; exact HTB.out, by rw [hAl]; exact HTN.out, fun ad e => by cases e; exact ⟨b, off, off, rfl, rfl⟩, HBd.out⟩

end Go.Proofs.Ytahpocpagidahaa
