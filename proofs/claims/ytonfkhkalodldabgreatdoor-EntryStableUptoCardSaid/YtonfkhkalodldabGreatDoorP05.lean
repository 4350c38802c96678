/-
  Texts of the schema layer and of those beneath it, joined: AttP3, AttP4, AttP5. Conditions stand at each contract.
-/
import Derived.OwnWalk
import Derived.Shelf.SlicesG.Turned
import Derived.Test.YtonfkhkalodldabGreatDoorP03
import Derived.Test.YtonfkhkalodldabGreatDoorP04
set_option linter.unusedVariables false
set_option linter.unusedSimpArgs false
set_option linter.unnecessarySimpa false

section
/-
  Contract of attrs.around. Condition: at most 3000 attributes whose names ascend.
-/
set_option maxRecDepth 100000
namespace Go.Proofs.YtonfkhkalodldabGreatDoor
open Go.RowKit Go.PlainAid
/-- a list divided at a name -/
structure Parts (T : List Tr) (lw : ByteArray) (B M A : List Tr) (hv : Value) : Prop where
  all : T = B ++ M ++ A
  lo : ∀ t ∈ B, cmpS t.1 lw < 0
  hi : ∀ t ∈ A, cmpS lw t.1 < 0
  mid : (M = [] ∧ hv = .slice none 0 0) ∨ ∃ vs, M = [(lw, hv, vs)]
theorem mem_part {T : List Tr} {i : Nat} {t : Tr} (h : t ∈ T.take i) : ∃ j, j < i ∧ j < T.length ∧ trD T j = t := by
  obtain ⟨j, hj, rfl⟩ := List.mem_take_iff_getElem.1 h
  exact ⟨j, by omega, by omega, tr_get T j (by omega)⟩
theorem mem_rest {T : List Tr} {i : Nat} {t : Tr} (h : t ∈ T.drop i) : ∃ j, i ≤ j ∧ j < T.length ∧ trD T j = t := by
  obtain ⟨j, hj, rfl⟩ := List.mem_drop_iff_getElem.1 h
  exact ⟨i + j, by omega, by omega, by rw [tr_get T (i + j) (by omega)]⟩
theorem parts_none {T : List Tr} {lw : ByteArray} {i : Nat} (hA : Asc ((tats T).map (·.1))) (h : Found T lw i) (hn : ¬ (i < T.length ∧ (trD T i).1 = lw)) : Parts T lw (T.take i) [] (T.drop i) (.slice none 0 0) where
  all := by rw [List.append_nil, List.take_append_drop]
  lo t ht := by obtain ⟨j, h1, h2, rfl⟩ := mem_part ht; exact h.2.1 j h1
  hi t ht := by
    obtain ⟨j, h1, h2, rfl⟩ := mem_rest ht
    have hi' : cmpS lw (trD T i).1 < 0 := by
      have hge : ¬ cmpS (trD T i).1 lw < 0 := h.2.2 i (Nat.le_refl _) (by omega)
      rcases cs_tri (trD T i).1 lw with k | k | k
      · exact absurd k hge
      · exact absurd ⟨by omega, k⟩ hn
      · exact k
    rcases Nat.lt_or_eq_of_le h1 with k | k
    · exact cs_trans hi' (asc_mono hA k h2)
    · subst k; exact hi'
  mid := .inl ⟨rfl, rfl⟩
theorem parts_some {T : List Tr} {lw : ByteArray} {i : Nat} {hd : Value} {vs : List ByteArray} (hA : Asc ((tats T).map (·.1))) (h : Found T lw i) (hi : i < T.length) (e : trD T i = (lw, hd, vs)) : Parts T lw (T.take i) [(lw, hd, vs)] (T.drop (i + 1)) hd where
  all := by
    have h1 : T.take (i + 1) = T.take i ++ [trD T i] := tr_take T i hi
    rw [← e, ← h1, List.take_append_drop]
  lo t ht := by obtain ⟨j, h1, h2, rfl⟩ := mem_part ht; exact h.2.1 j h1
  hi t ht := by
    obtain ⟨j, h1, h2, rfl⟩ := mem_rest ht
    have := asc_mono hA (show i < j by omega) h2
    rw [e] at this
    exact this
  mid := .inr ⟨vs, rfl⟩
theorem ts_cut {w : World} {ao : Option Addr} {n cap : Nat} {T : List Tr} (h : TsAt w ao n cap T) (i : Nat) (hi : i ≤ n) : TsAt w ao i i (T.take i) := by
  obtain ⟨h1, h2, h3, h4⟩ := h
  refine ⟨by rw [List.length_take]; omega, Nat.le_refl _, by omega, fun hn => ?_⟩
  obtain ⟨b, off, e, hb, ha⟩ := h4 (by omega)
  refine ⟨b, off, e, hb, fun j u hj => ha j u ?_⟩
  rw [← tcells_take, List.getElem?_take] at hj
  split at hj
  · exact hj
  · cases hj
theorem ts_rest {w : World} {b off n cap : Nat} {T : List Tr} (h : TsAt w (some ⟨b, off, none⟩) n cap T) (i : Nat) (hi : i ≤ n) : TsAt w (some ⟨b, off + i * 2, none⟩) (n - i) (cap - i) (T.drop i) := by
  obtain ⟨h1, h2, h3, h4⟩ := h
  refine ⟨by rw [List.length_drop]; omega, by omega, by omega, fun hn => ?_⟩
  obtain ⟨b', off', e, hb, ha⟩ := h4 (by omega)
  cases e
  refine ⟨b, off + i * 2, rfl, hb, fun j u hj => ?_⟩
  rw [← tcells_drop T i (by omega), List.getElem?_drop] at hj
  rw [Nat.add_assoc]
  exact ha _ _ hj
theorem ts_none {w : World} {ao bo : Option Addr} {n cap c : Nat} {T : List Tr} (h : TsAt w ao n cap T) (i : Nat) (hi : n ≤ i) (hc : c ≤ maxLen) : TsAt w bo 0 c (T.drop i) := by
  have e : T.drop i = [] := List.drop_of_length_le (by rw [h.1]; exact hi)
  rw [e]
  exact ts_nil w bo c hc
/-- where a part lies -/
def Lies (ao bo : Option Addr) : Prop := ∀ ad, bo = some ad → ∃ b off off', ad = ⟨b, off, none⟩ ∧ ao = some ⟨b, off', none⟩
set_option maxRecDepth 100000 in
set_option maxHeartbeats 8000000 in
theorem around_s (ao : Option Addr) (n cap : Nat) (T : List Tr) (name : ByteArray) (w : World) (h : TsAt w ao n cap T) (hA : Asc ((tats T).map (·.1))) (hn : n ≤ 3000) (hz : ao = none → cap = 0) (hp : ∀ ad, ao = some ad → ad.spot = none) (hns : name.size ≤ 1100000) :
    Calls Tryz.prog 99 #[.slice ao n cap, .string name] w fun e w' => ∃ (B M A : List Tr) (hv : Value) (bo : Option Addr) (c : Nat), e = .returned (.tuple #[.slice ao B.length B.length, hv, .slice bo A.length c]) ∧
      Parts T (lowS name) B M A hv ∧ TsAt w' ao B.length B.length B ∧ TsAt w' bo A.length c A ∧ Lies ao bo ∧ Below w.heap.size w w' := by
  have hTl : T.length = n := h.1
  have HS0 := Lib.hid (fun lw w1 (hb : Below w.heap.size w w1) => search_s ao n cap T lw w1 (h.below hb) hA hn)
  have HT := Lib.hid h
  have HA := Lib.hid hA
  have hcn : n ≤ cap := h.2.1
  have hcm : cap ≤ 9223372036854775807 := h.2.2.1
  clear h hA
  obtain ⟨lw, hlw⟩ : ∃ x, lowS name = x := ⟨_, rfl⟩
  have HLW := Lib.hid hlw
  rw [hlw]
  clear hlw
  go_enter Tryz.func99, Tryz.ntmps99
  go_wp2_with fail
  refine (lower_s name w (by omega)).mono ?_
  rintro e w1 ⟨rfl, hb⟩
  rw [HLW.out]
  have HS := Lib.hid (HS0.out lw w1 hb)
  have HB1 := Lib.hid hb
  clear HS0 hb
  go_wp2_with fail
  refine HS.out.mono ?_
  rintro e w2 ⟨i, rfl, hfd, hb⟩
  have hin : i ≤ n := by rw [← hTl]; exact hfd.1
  have HFD := Lib.hid hfd
  have HB2 := Lib.hid (HB1.out.trans (hb.mono HB1.out.size))
  have HT2 := Lib.hid (HT.out.below HB2.out)
  clear hfd hb HS HB1
  have HBd : Hid (Below w.heap.size w w2.drew) := Lib.hid HB2.out.drew
  have k0 : (0 : Int) ≤ (i : Int) := by omega
  have k1 : (i : Int) ≤ (cap : Int) := by omega
  have k2 : (i : Int) ≤ (n : Int) := by omega
  have hBl : (T.take i).length = i := by rw [List.length_take]; omega
  cases ao with
  | none =>
    have hc0 := hz rfl
    subst hc0
    obtain rfl : n = 0 := by omega
    obtain rfl : i = 0 := by omega
    have hf : decide (0 < 0 ∧ (trD T 0).1 = lw) = false := by simp
    rw [hf]
    have HP := Lib.hid (parts_none (lw := lw) HA.out HFD.out (by omega))
    go_wp2_with fail
    refine wp_region_held_drew (S := fun W => Hid (Below w.heap.size w W)) (by kernel_rfl) (HBd) (fun hS => ?_)
    refine wpAnyH_take (i := 0) (oi := { dst := some 16, op := _, type := _, pos := _, after := _, guard := _ }) (v := ?_) rfl (by kernel_rfl) (by kernel_rfl) (by kernel_rfl) (fun _ _ _ h => h) (Or.inl ⟨by rfl, ?_⟩) (by assumption) ?_
    rotate_left
    · intro w hSw
      try dsimp only at hSw
      go_simp
      try with_reducible rfl
    try simp only [Act.put, List.setIfInBounds_toArray, List.set_cons_zero, List.set_cons_succ]
    refine wpAnyH_take (i := 1) (oi := { dst := some 17, op := _, type := _, pos := _, after := _, guard := _ }) (v := ?_) rfl (by kernel_rfl) (by kernel_rfl) (by kernel_rfl) (fun _ _ _ h => h) (Or.inl ⟨by rfl, ?_⟩) (by assumption) ?_
    rotate_left
    · intro w hSw
      try dsimp only at hSw
      go_simp
      try with_reducible rfl
    try simp only [Act.put, List.setIfInBounds_toArray, List.set_cons_zero, List.set_cons_succ]
    refine wpAnyH_take (i := 2) (oi := { dst := some 18, op := _, type := _, pos := _, after := _, guard := _ }) (v := ?_) rfl (by kernel_rfl) (by kernel_rfl) (by kernel_rfl) (fun _ _ _ h => h) (Or.inl ⟨by rfl, ?_⟩) (by assumption) ?_
    rotate_left
    · intro w hSw
      try dsimp only at hSw
      go_simp
      try with_reducible rfl
    try simp only [Act.put, List.setIfInBounds_toArray, List.set_cons_zero, List.set_cons_succ]
    refine wpAnyH_take (i := 3) (oi := { dst := some 19, op := _, type := _, pos := _, after := _, guard := _ }) (v := ?_) rfl (by kernel_rfl) (by kernel_rfl) (by kernel_rfl) (fun _ _ _ h => h) (Or.inl ⟨by rfl, ?_⟩) (by assumption) ?_
    rotate_left
    · intro w hSw
      try dsimp only at hSw
      go_simp
      try with_reducible rfl
    try simp only [Act.put, List.setIfInBounds_toArray, List.set_cons_zero, List.set_cons_succ]
    refine wpAnyH_take (i := 4) (oi := { dst := some 20, op := _, type := _, pos := _, after := _, guard := _ }) (v := ?_) rfl (by kernel_rfl) (by kernel_rfl) (by kernel_rfl) (fun _ _ _ h => h) (Or.inl ⟨by rfl, ?_⟩) (by assumption) ?_
    rotate_left
    · intro w hSw
      try dsimp only at hSw
      go_simp
      try with_reducible rfl
    try simp only [Act.put, List.setIfInBounds_toArray, List.set_cons_zero, List.set_cons_succ]
    refine wpAnyH_take (i := 5) (oi := { dst := some 21, op := _, type := _, pos := _, after := _, guard := _ }) (v := ?_) rfl (by kernel_rfl) (by kernel_rfl) (by kernel_rfl) (fun _ _ _ h => h) (Or.inl ⟨by rfl, ?_⟩) (by assumption) ?_
    rotate_left
    · intro w hSw
      try dsimp only at hSw
      go_simp
      try with_reducible rfl
    try simp only [Act.put, List.setIfInBounds_toArray, List.set_cons_zero, List.set_cons_succ]
    refine wpAnyH_take (i := 6) (oi := { dst := some 22, op := _, type := _, pos := _, after := _, guard := _ }) (v := ?_) rfl (by kernel_rfl) (by kernel_rfl) (by kernel_rfl) (fun _ _ _ h => h) (Or.inl ⟨by rfl, ?_⟩) (by assumption) ?_
    rotate_left
    · intro w hSw
      try dsimp only at hSw
      go_simp
      try with_reducible rfl
    try simp only [Act.put, List.setIfInBounds_toArray, List.set_cons_zero, List.set_cons_succ]
    refine wpAnyH_take (i := 7) (oi := { dst := some 4, op := _, type := _, pos := _, after := _, guard := _ }) (v := ?_) rfl (by kernel_rfl) (by kernel_rfl) (by kernel_rfl) (fun _ _ _ h => h) (Or.inl ⟨by rfl, ?_⟩) (by assumption) ?_
    rotate_left
    · intro w hSw
      try dsimp only at hSw
      go_simp
      try with_reducible rfl
    try simp only [Act.put, List.setIfInBounds_toArray, List.set_cons_zero, List.set_cons_succ]
    refine wpAnyH_take (i := 8) (oi := { dst := some 6, op := _, type := _, pos := _, after := _, guard := _ }) (v := ?_) rfl (by kernel_rfl) (by kernel_rfl) (by kernel_rfl) (fun _ _ _ h => h) (Or.inl ⟨by rfl, ?_⟩) (by assumption) ?_
    rotate_left
    · intro w hSw
      try dsimp only at hSw
      go_simp
      try with_reducible rfl
    try simp only [Act.put, List.setIfInBounds_toArray, List.set_cons_zero, List.set_cons_succ]
    refine wpAnyH_done (by kernel_rfl) ?_ _
    go_wp2_with fail
    go_ret3
    have hT0 : T = [] := List.length_eq_zero_iff.1 hTl
    subst hT0
    exact ⟨[], [], [], _, none, 0, rfl, HP.out, ts_nil _ _ _ (by unfold maxLen; omega), ts_nil _ _ _ (by unfold maxLen; omega), (fun ad e => by cases e), HBd.out⟩
  | some ad =>
    have hsp := hp ad rfl
    obtain ⟨b, off, spot⟩ := ad
    simp only at hsp
    subst hsp
    have hT2d : Hid (TsAt w2.drew (some ⟨b, off, none⟩) n cap T) := Lib.hid (HT2.out.below (Below.refl _ w2).drew)
    have HTB := Lib.hid (ts_cut hT2d.out i hin)
    by_cases hic : i < cap
    · have k3 : (i : Int) < (cap : Int) := by omega
      have k4 : ¬ cap = i := by omega
      by_cases hfo : i < n ∧ (trD T i).1 = lw
      · have hf : decide (i < n ∧ (trD T i).1 = lw) = true := decide_eq_true hfo
        rw [hf]
        obtain ⟨hfi, hfe⟩ := hfo
        obtain ⟨a0, a1⟩ := ts_at hT2d.out i hfi
        obtain ⟨x, hx⟩ : ∃ x, trD T i = x := ⟨_, rfl⟩
        rw [hx] at a1 hfe
        have HX := Lib.hid hx
        clear hx a0
        obtain ⟨p, hd, vs⟩ := x
        simp only [] at a1 hfe
        subst hfe
        have HP := Lib.hid (parts_some HA.out HFD.out (by omega) HX.out)
        have HTA := Lib.hid (ts_rest hT2d.out (i + 1) (by omega))
        have HTN := Lib.hid (fun (bo : Option Addr) (c : Nat) => ts_none (bo := bo) (c := c) hT2d.out (i + 1))
        have hAl : (T.drop (i + 1)).length = n - (i + 1) := by rw [List.length_drop]; omega
        go_wp2_with fail
        refine wp_region_held_drew (S := fun W => Hid (Below w.heap.size w W)) (by kernel_rfl) (HBd) (fun hS => ?_)
        refine wpAnyH_take (i := 0) (oi := { dst := some 16, op := _, type := _, pos := _, after := _, guard := _ }) (v := ?_) rfl (by kernel_rfl) (by kernel_rfl) (by kernel_rfl) (fun _ _ _ h => h) (Or.inl ⟨by rfl, ?_⟩) (by assumption) ?_
        rotate_left
        · intro w hSw
          try dsimp only at hSw
          go_simp
          try with_reducible rfl
        try simp only [Act.put, List.setIfInBounds_toArray, List.set_cons_zero, List.set_cons_succ]
        refine wpAnyH_take (i := 1) (oi := { dst := some 17, op := _, type := _, pos := _, after := _, guard := _ }) (v := ?_) rfl (by kernel_rfl) (by kernel_rfl) (by kernel_rfl) (fun _ _ _ h => h) (Or.inl ⟨by rfl, ?_⟩) (by assumption) ?_
        rotate_left
        · intro w hSw
          try dsimp only at hSw
          go_simp
          try with_reducible rfl
        try simp only [Act.put, List.setIfInBounds_toArray, List.set_cons_zero, List.set_cons_succ]
        refine wpAnyH_take (i := 2) (oi := { dst := some 18, op := _, type := _, pos := _, after := _, guard := _ }) (v := ?_) rfl (by kernel_rfl) (by kernel_rfl) (by kernel_rfl) (fun _ _ _ h => h) (Or.inl ⟨by rfl, ?_⟩) (by assumption) ?_
        rotate_left
        · intro w hSw
          try dsimp only at hSw
          go_simp
          try with_reducible rfl
        try simp only [Act.put, List.setIfInBounds_toArray, List.set_cons_zero, List.set_cons_succ]
        refine wpAnyH_take (i := 3) (oi := { dst := some 19, op := _, type := _, pos := _, after := _, guard := _ }) (v := ?_) rfl (by kernel_rfl) (by kernel_rfl) (by kernel_rfl) (fun _ _ _ h => h) (Or.inl ⟨by rfl, ?_⟩) (by assumption) ?_
        rotate_left
        · intro w hSw
          try dsimp only at hSw
          go_simp
          try with_reducible rfl
        try simp only [Act.put, List.setIfInBounds_toArray, List.set_cons_zero, List.set_cons_succ]
        refine wpAnyH_take (i := 4) (oi := { dst := some 20, op := _, type := _, pos := _, after := _, guard := _ }) (v := ?_) rfl (by kernel_rfl) (by kernel_rfl) (by kernel_rfl) (fun _ _ _ h => h) (Or.inl ⟨by rfl, ?_⟩) (by assumption) ?_
        rotate_left
        · intro w hSw
          try dsimp only at hSw
          go_simp
          try with_reducible rfl
        try simp only [Act.put, List.setIfInBounds_toArray, List.set_cons_zero, List.set_cons_succ]
        refine wpAnyH_take (i := 5) (oi := { dst := some 21, op := _, type := _, pos := _, after := _, guard := _ }) (v := ?_) rfl (by kernel_rfl) (by kernel_rfl) (by kernel_rfl) (fun _ _ _ h => h) (Or.inl ⟨by rfl, ?_⟩) (by assumption) ?_
        rotate_left
        · intro w hSw
          try dsimp only at hSw
          go_simp
          try with_reducible rfl
        try simp only [Act.put, List.setIfInBounds_toArray, List.set_cons_zero, List.set_cons_succ]
        refine wpAnyH_take (i := 6) (oi := { dst := some 22, op := _, type := _, pos := _, after := _, guard := _ }) (v := ?_) rfl (by kernel_rfl) (by kernel_rfl) (by kernel_rfl) (fun _ _ _ h => h) (Or.inl ⟨by rfl, ?_⟩) (by assumption) ?_
        rotate_left
        · intro w hSw
          try dsimp only at hSw
          go_simp
          try with_reducible rfl
        try simp only [Act.put, List.setIfInBounds_toArray, List.set_cons_zero, List.set_cons_succ]
        refine wpAnyH_take (i := 7) (oi := { dst := some 4, op := _, type := _, pos := _, after := _, guard := _ }) (v := ?_) rfl (by kernel_rfl) (by kernel_rfl) (by kernel_rfl) (fun _ _ _ h => h) (Or.inl ⟨by rfl, ?_⟩) (by assumption) ?_
        rotate_left
        · intro w hSw
          try dsimp only at hSw
          go_simp
          try with_reducible rfl
        try simp only [Act.put, List.setIfInBounds_toArray, List.set_cons_zero, List.set_cons_succ]
        refine wpAnyH_take (i := 8) (oi := { dst := some 6, op := _, type := _, pos := _, after := _, guard := _ }) (v := ?_) rfl (by kernel_rfl) (by kernel_rfl) (by kernel_rfl) (fun _ _ _ h => h) (Or.inl ⟨by rfl, ?_⟩) (by assumption) ?_
        rotate_left
        · intro w hSw
          try dsimp only at hSw
          go_simp
          try with_reducible rfl
        try simp only [Act.put, List.setIfInBounds_toArray, List.set_cons_zero, List.set_cons_succ]
        refine wpAnyH_done (by kernel_rfl) ?_ _
        obtain ⟨m, hm⟩ : ∃ x, n - i = x := ⟨_, rfl⟩
        obtain ⟨c, hc⟩ : ∃ x, cap - i = x := ⟨_, rfl⟩
        have hm0 : 0 < m := by omega
        have hmc : m ≤ c := by omega
        have m1 : (0 : Int) < (m : Int) := by omega
        have m2 : (1 : Int) ≤ (m : Int) := by omega
        have m3 : (1 : Int) ≤ (c : Int) := by omega
        have hcb : c ≤ 9223372036854775807 := by omega
        have a1d : w2.drew.drew.cell? ⟨b, off + i * 2 + 1, none⟩ = some hd := a1
        have HBdd : Hid (Below w.heap.size w w2.drew.drew) := Lib.hid HBd.out.drew
        by_cases hc1 : c = 1
        · subst hc1
          have hAl2 : (T.drop (i + 1)).length = 0 := by omega
          go_wp2_with fail
          rw [hm, hc]
          refine wp_region_held_drew (S := fun W => W.cell? ⟨b, off + i * 2 + 1, none⟩ = some hd ∧ Hid (Below w.heap.size w W)) (by kernel_rfl) (⟨a1d, HBdd⟩) (fun hS => ?_)
          refine wpAnyH_take (i := 0) (oi := { dst := some 24, op := _, type := _, pos := _, after := _, guard := _ }) (v := ?_) rfl (by kernel_rfl) (by kernel_rfl) (by kernel_rfl) (fun _ _ _ h => h) (Or.inl ⟨by rfl, ?_⟩) (by assumption) ?_
          rotate_left
          · intro w hSw
            try dsimp only at hSw
            go_simp
            try with_reducible rfl
          try simp only [Act.put, List.setIfInBounds_toArray, List.set_cons_zero, List.set_cons_succ]
          refine wpAnyH_take (i := 1) (oi := { dst := some 25, op := _, type := _, pos := _, after := _, guard := _ }) (v := ?_) rfl (by kernel_rfl) (by kernel_rfl) (by kernel_rfl) (fun _ _ _ h => h) (Or.inl ⟨by rfl, ?_⟩) (by assumption) ?_
          rotate_left
          · intro w hSw
            try dsimp only at hSw
            go_simp
            try with_reducible rfl
          try simp only [Act.put, List.setIfInBounds_toArray, List.set_cons_zero, List.set_cons_succ]
          refine wpAnyH_take (i := 2) (oi := { dst := some 26, op := _, type := _, pos := _, after := _, guard := _ }) (v := ?_) rfl (by kernel_rfl) (by kernel_rfl) (by kernel_rfl) (fun _ _ _ h => h) (Or.inl ⟨by rfl, ?_⟩) (by assumption) ?_
          rotate_left
          · intro w hSw
            try dsimp only at hSw
            go_simp
            try with_reducible rfl
          try simp only [Act.put, List.setIfInBounds_toArray, List.set_cons_zero, List.set_cons_succ]
          refine wpAnyH_take (i := 3) (oi := { dst := some 27, op := _, type := _, pos := _, after := _, guard := _ }) (v := ?_) rfl (by kernel_rfl) (by kernel_rfl) (by kernel_rfl) (fun _ _ _ h => h) (Or.inl ⟨by rfl, ?_⟩) (by assumption) ?_
          rotate_left
          · intro w hSw
            try dsimp only at hSw
            go_simp
            try with_reducible rfl
          try simp only [Act.put, List.setIfInBounds_toArray, List.set_cons_zero, List.set_cons_succ]
          refine wpAnyH_take (i := 4) (oi := { dst := some 28, op := _, type := _, pos := _, after := _, guard := _ }) (v := ?_) rfl (by kernel_rfl) (by kernel_rfl) (by kernel_rfl) (fun _ _ _ h => h) (Or.inl ⟨by rfl, ?_⟩) (by assumption) ?_
          rotate_left
          · intro w hSw
            try dsimp only at hSw
            go_simp
            try with_reducible rfl
          try simp only [Act.put, List.setIfInBounds_toArray, List.set_cons_zero, List.set_cons_succ]
          refine wpAnyH_take (i := 5) (oi := { dst := some 29, op := _, type := _, pos := _, after := _, guard := _ }) (v := ?_) rfl (by kernel_rfl) (by kernel_rfl) (by kernel_rfl) (fun _ _ _ h => h) (Or.inl ⟨by rfl, ?_⟩) (by assumption) ?_
          rotate_left
          · intro w hSw
            try dsimp only at hSw
            go_simp
            try with_reducible rfl
          try simp only [Act.put, List.setIfInBounds_toArray, List.set_cons_zero, List.set_cons_succ]
          refine wpAnyH_take (i := 6) (oi := { dst := some 5, op := _, type := _, pos := _, after := _, guard := _ }) (v := ?_) rfl (by kernel_rfl) (by kernel_rfl) (by kernel_rfl) (fun _ _ _ h => h) (Or.inl ⟨by rfl, ?_⟩) (by assumption) ?_
          rotate_left
          · intro w hSw
            try dsimp only at hSw
            go_simp
            try with_reducible rfl
          try simp only [Act.put, List.setIfInBounds_toArray, List.set_cons_zero, List.set_cons_succ]
          refine wpAnyH_take (i := 7) (oi := { dst := some 6, op := _, type := _, pos := _, after := _, guard := _ }) (v := ?_) rfl (by kernel_rfl) (by kernel_rfl) (by kernel_rfl) (fun _ _ _ h => h) (Or.inl ⟨by rfl, ?_⟩) (by assumption) ?_
          rotate_left
          · intro w hSw
            try dsimp only at hSw
            go_simp
            try with_reducible rfl
          try simp only [Act.put, List.setIfInBounds_toArray, List.set_cons_zero, List.set_cons_succ]
          refine wpAnyH_done (by kernel_rfl) ?_ _
          go_wp2_with fail
          go_ret3
          have hTN := HTN.out (some ⟨b, off + i * 2, none⟩) 0 (by omega) (by unfold maxLen; omega)
          have hmm : m - 1 = 0 := by omega
          exact ⟨T.take i, [(p, hd, vs)], T.drop (i + 1), hd, some ⟨b, off + i * 2, none⟩, 0, by rw [hBl, hAl2, ← hmm]; rfl, HP.out, by rw [hBl]; exact HTB.out, by rw [hAl2]; exact hTN, fun ad e => by cases e; exact ⟨b, off + i * 2, off, rfl, rfl⟩, HBdd.out⟩
        · have m4 : (1 : Int) < (c : Int) := by omega
          have m5 : ¬ c = 1 := hc1
          go_wp2_with fail
          rw [hm, hc]
          refine wp_region_held_drew (S := fun W => W.cell? ⟨b, off + i * 2 + 1, none⟩ = some hd ∧ Hid (Below w.heap.size w W)) (by kernel_rfl) (⟨a1d, HBdd⟩) (fun hS => ?_)
          refine wpAnyH_take (i := 0) (oi := { dst := some 24, op := _, type := _, pos := _, after := _, guard := _ }) (v := ?_) rfl (by kernel_rfl) (by kernel_rfl) (by kernel_rfl) (fun _ _ _ h => h) (Or.inl ⟨by rfl, ?_⟩) (by assumption) ?_
          rotate_left
          · intro w hSw
            try dsimp only at hSw
            go_simp
            try with_reducible rfl
          try simp only [Act.put, List.setIfInBounds_toArray, List.set_cons_zero, List.set_cons_succ]
          refine wpAnyH_take (i := 1) (oi := { dst := some 25, op := _, type := _, pos := _, after := _, guard := _ }) (v := ?_) rfl (by kernel_rfl) (by kernel_rfl) (by kernel_rfl) (fun _ _ _ h => h) (Or.inl ⟨by rfl, ?_⟩) (by assumption) ?_
          rotate_left
          · intro w hSw
            try dsimp only at hSw
            go_simp
            try with_reducible rfl
          try simp only [Act.put, List.setIfInBounds_toArray, List.set_cons_zero, List.set_cons_succ]
          refine wpAnyH_take (i := 2) (oi := { dst := some 26, op := _, type := _, pos := _, after := _, guard := _ }) (v := ?_) rfl (by kernel_rfl) (by kernel_rfl) (by kernel_rfl) (fun _ _ _ h => h) (Or.inl ⟨by rfl, ?_⟩) (by assumption) ?_
          rotate_left
          · intro w hSw
            try dsimp only at hSw
            go_simp
            try with_reducible rfl
          try simp only [Act.put, List.setIfInBounds_toArray, List.set_cons_zero, List.set_cons_succ]
          refine wpAnyH_take (i := 3) (oi := { dst := some 27, op := _, type := _, pos := _, after := _, guard := _ }) (v := ?_) rfl (by kernel_rfl) (by kernel_rfl) (by kernel_rfl) (fun _ _ _ h => h) (Or.inl ⟨by rfl, ?_⟩) (by assumption) ?_
          rotate_left
          · intro w hSw
            try dsimp only at hSw
            go_simp
            try with_reducible rfl
          try simp only [Act.put, List.setIfInBounds_toArray, List.set_cons_zero, List.set_cons_succ]
          refine wpAnyH_take (i := 4) (oi := { dst := some 28, op := _, type := _, pos := _, after := _, guard := _ }) (v := ?_) rfl (by kernel_rfl) (by kernel_rfl) (by kernel_rfl) (fun _ _ _ h => h) (Or.inl ⟨by rfl, ?_⟩) (by assumption) ?_
          rotate_left
          · intro w hSw
            try dsimp only at hSw
            go_simp
            try with_reducible rfl
          try simp only [Act.put, List.setIfInBounds_toArray, List.set_cons_zero, List.set_cons_succ]
          refine wpAnyH_take (i := 5) (oi := { dst := some 29, op := _, type := _, pos := _, after := _, guard := _ }) (v := ?_) rfl (by kernel_rfl) (by kernel_rfl) (by kernel_rfl) (fun _ _ _ h => h) (Or.inl ⟨by rfl, ?_⟩) (by assumption) ?_
          rotate_left
          · intro w hSw
            try dsimp only at hSw
            go_simp
            try with_reducible rfl
          try simp only [Act.put, List.setIfInBounds_toArray, List.set_cons_zero, List.set_cons_succ]
          refine wpAnyH_take (i := 6) (oi := { dst := some 5, op := _, type := _, pos := _, after := _, guard := _ }) (v := ?_) rfl (by kernel_rfl) (by kernel_rfl) (by kernel_rfl) (fun _ _ _ h => h) (Or.inl ⟨by rfl, ?_⟩) (by assumption) ?_
          rotate_left
          · intro w hSw
            try dsimp only at hSw
            go_simp
            try with_reducible rfl
          try simp only [Act.put, List.setIfInBounds_toArray, List.set_cons_zero, List.set_cons_succ]
          refine wpAnyH_take (i := 7) (oi := { dst := some 6, op := _, type := _, pos := _, after := _, guard := _ }) (v := ?_) rfl (by kernel_rfl) (by kernel_rfl) (by kernel_rfl) (fun _ _ _ h => h) (Or.inl ⟨by rfl, ?_⟩) (by assumption) ?_
          rotate_left
          · intro w hSw
            try dsimp only at hSw
            go_simp
            try with_reducible rfl
          try simp only [Act.put, List.setIfInBounds_toArray, List.set_cons_zero, List.set_cons_succ]
          refine wpAnyH_done (by kernel_rfl) ?_ _
          go_wp2_with fail
          go_ret3
          have e1 : n - (i + 1) = m - 1 := by omega
          have e2 : cap - (i + 1) = c - 1 := by omega
          have e3 : off + (i + 1) * 2 = off + i * 2 + 2 := by omega
          have hTA := HTA.out
          rw [e1, e2, e3] at hTA
          rw [e1] at hAl
          exact ⟨T.take i, [(p, hd, vs)], T.drop (i + 1), hd, some ⟨b, off + i * 2 + 2, none⟩, c - 1, by rw [hBl, hAl]; rfl, HP.out, by rw [hBl]; exact HTB.out, by rw [hAl]; exact hTA, fun ad e => by cases e; exact ⟨b, off + i * 2 + 2, off, rfl, rfl⟩, HBdd.out⟩
      · have hf : decide (i < n ∧ (trD T i).1 = lw) = false := decide_eq_false hfo
        rw [hf]
        have HP := Lib.hid (parts_none (lw := lw) HA.out HFD.out (by rw [hTl]; exact hfo))
        have HTA := Lib.hid (ts_rest hT2d.out i hin)
        have hAl : (T.drop i).length = n - i := by rw [List.length_drop]; omega
        go_wp2_with fail
        refine wp_region_held_drew (S := fun W => Hid (Below w.heap.size w W)) (by kernel_rfl) (HBd) (fun hS => ?_)
        refine wpAnyH_take (i := 0) (oi := { dst := some 16, op := _, type := _, pos := _, after := _, guard := _ }) (v := ?_) rfl (by kernel_rfl) (by kernel_rfl) (by kernel_rfl) (fun _ _ _ h => h) (Or.inl ⟨by rfl, ?_⟩) (by assumption) ?_
        rotate_left
        · intro w hSw
          try dsimp only at hSw
          go_simp
          try with_reducible rfl
        try simp only [Act.put, List.setIfInBounds_toArray, List.set_cons_zero, List.set_cons_succ]
        refine wpAnyH_take (i := 1) (oi := { dst := some 17, op := _, type := _, pos := _, after := _, guard := _ }) (v := ?_) rfl (by kernel_rfl) (by kernel_rfl) (by kernel_rfl) (fun _ _ _ h => h) (Or.inl ⟨by rfl, ?_⟩) (by assumption) ?_
        rotate_left
        · intro w hSw
          try dsimp only at hSw
          go_simp
          try with_reducible rfl
        try simp only [Act.put, List.setIfInBounds_toArray, List.set_cons_zero, List.set_cons_succ]
        refine wpAnyH_take (i := 2) (oi := { dst := some 18, op := _, type := _, pos := _, after := _, guard := _ }) (v := ?_) rfl (by kernel_rfl) (by kernel_rfl) (by kernel_rfl) (fun _ _ _ h => h) (Or.inl ⟨by rfl, ?_⟩) (by assumption) ?_
        rotate_left
        · intro w hSw
          try dsimp only at hSw
          go_simp
          try with_reducible rfl
        try simp only [Act.put, List.setIfInBounds_toArray, List.set_cons_zero, List.set_cons_succ]
        refine wpAnyH_take (i := 3) (oi := { dst := some 19, op := _, type := _, pos := _, after := _, guard := _ }) (v := ?_) rfl (by kernel_rfl) (by kernel_rfl) (by kernel_rfl) (fun _ _ _ h => h) (Or.inl ⟨by rfl, ?_⟩) (by assumption) ?_
        rotate_left
        · intro w hSw
          try dsimp only at hSw
          go_simp
          try with_reducible rfl
        try simp only [Act.put, List.setIfInBounds_toArray, List.set_cons_zero, List.set_cons_succ]
        refine wpAnyH_take (i := 4) (oi := { dst := some 20, op := _, type := _, pos := _, after := _, guard := _ }) (v := ?_) rfl (by kernel_rfl) (by kernel_rfl) (by kernel_rfl) (fun _ _ _ h => h) (Or.inl ⟨by rfl, ?_⟩) (by assumption) ?_
        rotate_left
        · intro w hSw
          try dsimp only at hSw
          go_simp
          try with_reducible rfl
        try simp only [Act.put, List.setIfInBounds_toArray, List.set_cons_zero, List.set_cons_succ]
        refine wpAnyH_take (i := 5) (oi := { dst := some 21, op := _, type := _, pos := _, after := _, guard := _ }) (v := ?_) rfl (by kernel_rfl) (by kernel_rfl) (by kernel_rfl) (fun _ _ _ h => h) (Or.inl ⟨by rfl, ?_⟩) (by assumption) ?_
        rotate_left
        · intro w hSw
          try dsimp only at hSw
          go_simp
          try with_reducible rfl
        try simp only [Act.put, List.setIfInBounds_toArray, List.set_cons_zero, List.set_cons_succ]
        refine wpAnyH_take (i := 6) (oi := { dst := some 22, op := _, type := _, pos := _, after := _, guard := _ }) (v := ?_) rfl (by kernel_rfl) (by kernel_rfl) (by kernel_rfl) (fun _ _ _ h => h) (Or.inl ⟨by rfl, ?_⟩) (by assumption) ?_
        rotate_left
        · intro w hSw
          try dsimp only at hSw
          go_simp
          try with_reducible rfl
        try simp only [Act.put, List.setIfInBounds_toArray, List.set_cons_zero, List.set_cons_succ]
        refine wpAnyH_take (i := 7) (oi := { dst := some 4, op := _, type := _, pos := _, after := _, guard := _ }) (v := ?_) rfl (by kernel_rfl) (by kernel_rfl) (by kernel_rfl) (fun _ _ _ h => h) (Or.inl ⟨by rfl, ?_⟩) (by assumption) ?_
        rotate_left
        · intro w hSw
          try dsimp only at hSw
          go_simp
          try with_reducible rfl
        try simp only [Act.put, List.setIfInBounds_toArray, List.set_cons_zero, List.set_cons_succ]
        refine wpAnyH_take (i := 8) (oi := { dst := some 6, op := _, type := _, pos := _, after := _, guard := _ }) (v := ?_) rfl (by kernel_rfl) (by kernel_rfl) (by kernel_rfl) (fun _ _ _ h => h) (Or.inl ⟨by rfl, ?_⟩) (by assumption) ?_
        rotate_left
        · intro w hSw
          try dsimp only at hSw
          go_simp
          try with_reducible rfl
        try simp only [Act.put, List.setIfInBounds_toArray, List.set_cons_zero, List.set_cons_succ]
        refine wpAnyH_done (by kernel_rfl) ?_ _
        go_wp2_with fail
        go_ret3
        exact ⟨T.take i, [], T.drop i, _, some ⟨b, off + i * 2, none⟩, cap - i, by rw [hBl, hAl]; rfl, HP.out, by rw [hBl]; exact HTB.out, by rw [hAl]; exact HTA.out, fun ad e => by cases e; exact ⟨b, off + i * 2, off, rfl, rfl⟩, HBd.out⟩
    · obtain rfl : cap = i := by omega
      obtain rfl : n = cap := by omega
      have hf : decide (n < n ∧ (trD T n).1 = lw) = false := by simp
      rw [hf]
      have HP := Lib.hid (parts_none (lw := lw) HA.out HFD.out (by omega))
      have HTN := Lib.hid (ts_none (bo := some ⟨b, off, none⟩) (c := 0) hT2d.out n (Nat.le_refl _) (by unfold maxLen; omega))
      have hAl : (T.drop n).length = 0 := by rw [List.length_drop]; omega
      go_wp2_with fail
      refine wp_region_held_drew (S := fun W => Hid (Below w.heap.size w W)) (by kernel_rfl) (HBd) (fun hS => ?_)
      refine wpAnyH_take (i := 0) (oi := { dst := some 16, op := _, type := _, pos := _, after := _, guard := _ }) (v := ?_) rfl (by kernel_rfl) (by kernel_rfl) (by kernel_rfl) (fun _ _ _ h => h) (Or.inl ⟨by rfl, ?_⟩) (by assumption) ?_
      rotate_left
      · intro w hSw
        try dsimp only at hSw
        go_simp
        try with_reducible rfl
      try simp only [Act.put, List.setIfInBounds_toArray, List.set_cons_zero, List.set_cons_succ]
      refine wpAnyH_take (i := 1) (oi := { dst := some 17, op := _, type := _, pos := _, after := _, guard := _ }) (v := ?_) rfl (by kernel_rfl) (by kernel_rfl) (by kernel_rfl) (fun _ _ _ h => h) (Or.inl ⟨by rfl, ?_⟩) (by assumption) ?_
      rotate_left
      · intro w hSw
        try dsimp only at hSw
        go_simp
        try with_reducible rfl
      try simp only [Act.put, List.setIfInBounds_toArray, List.set_cons_zero, List.set_cons_succ]
      refine wpAnyH_take (i := 2) (oi := { dst := some 18, op := _, type := _, pos := _, after := _, guard := _ }) (v := ?_) rfl (by kernel_rfl) (by kernel_rfl) (by kernel_rfl) (fun _ _ _ h => h) (Or.inl ⟨by rfl, ?_⟩) (by assumption) ?_
      rotate_left
      · intro w hSw
        try dsimp only at hSw
        go_simp
        try with_reducible rfl
      try simp only [Act.put, List.setIfInBounds_toArray, List.set_cons_zero, List.set_cons_succ]
      refine wpAnyH_take (i := 3) (oi := { dst := some 19, op := _, type := _, pos := _, after := _, guard := _ }) (v := ?_) rfl (by kernel_rfl) (by kernel_rfl) (by kernel_rfl) (fun _ _ _ h => h) (Or.inl ⟨by rfl, ?_⟩) (by assumption) ?_
      rotate_left
      · intro w hSw
        try dsimp only at hSw
        go_simp
        try with_reducible rfl
      try simp only [Act.put, List.setIfInBounds_toArray, List.set_cons_zero, List.set_cons_succ]
      refine wpAnyH_take (i := 4) (oi := { dst := some 20, op := _, type := _, pos := _, after := _, guard := _ }) (v := ?_) rfl (by kernel_rfl) (by kernel_rfl) (by kernel_rfl) (fun _ _ _ h => h) (Or.inl ⟨by rfl, ?_⟩) (by assumption) ?_
      rotate_left
      · intro w hSw
        try dsimp only at hSw
        go_simp
        try with_reducible rfl
      try simp only [Act.put, List.setIfInBounds_toArray, List.set_cons_zero, List.set_cons_succ]
      refine wpAnyH_take (i := 5) (oi := { dst := some 21, op := _, type := _, pos := _, after := _, guard := _ }) (v := ?_) rfl (by kernel_rfl) (by kernel_rfl) (by kernel_rfl) (fun _ _ _ h => h) (Or.inl ⟨by rfl, ?_⟩) (by assumption) ?_
      rotate_left
      · intro w hSw
        try dsimp only at hSw
        go_simp
        try with_reducible rfl
      try simp only [Act.put, List.setIfInBounds_toArray, List.set_cons_zero, List.set_cons_succ]
      refine wpAnyH_take (i := 6) (oi := { dst := some 22, op := _, type := _, pos := _, after := _, guard := _ }) (v := ?_) rfl (by kernel_rfl) (by kernel_rfl) (by kernel_rfl) (fun _ _ _ h => h) (Or.inl ⟨by rfl, ?_⟩) (by assumption) ?_
      rotate_left
      · intro w hSw
        try dsimp only at hSw
        go_simp
        try with_reducible rfl
      try simp only [Act.put, List.setIfInBounds_toArray, List.set_cons_zero, List.set_cons_succ]
      refine wpAnyH_take (i := 7) (oi := { dst := some 4, op := _, type := _, pos := _, after := _, guard := _ }) (v := ?_) rfl (by kernel_rfl) (by kernel_rfl) (by kernel_rfl) (fun _ _ _ h => h) (Or.inl ⟨by rfl, ?_⟩) (by assumption) ?_
      rotate_left
      · intro w hSw
        try dsimp only at hSw
        go_simp
        try with_reducible rfl
      try simp only [Act.put, List.setIfInBounds_toArray, List.set_cons_zero, List.set_cons_succ]
      refine wpAnyH_take (i := 8) (oi := { dst := some 6, op := _, type := _, pos := _, after := _, guard := _ }) (v := ?_) rfl (by kernel_rfl) (by kernel_rfl) (by kernel_rfl) (fun _ _ _ h => h) (Or.inl ⟨by rfl, ?_⟩) (by assumption) ?_
      rotate_left
      · intro w hSw
        try dsimp only at hSw
        go_simp
        try with_reducible rfl
      try simp only [Act.put, List.setIfInBounds_toArray, List.set_cons_zero, List.set_cons_succ]
      refine wpAnyH_done (by kernel_rfl) ?_ _
      go_wp2_with fail
      go_ret3
      exact ⟨T.take n, [], T.drop n, _, some ⟨b, off, none⟩, 0, by rw [hBl, hAl]; rfl, HP.out, by rw [hBl]; exact HTB.out, by rw [hAl]; exact HTN.out, fun ad e => by cases e; exact ⟨b, off, off, rfl, rfl⟩, HBd.out⟩
end Go.Proofs.YtonfkhkalodldabGreatDoor
end

section
/-
  Contracts of attrs.Get, Has, Names, joined and limited. Condition: as Sorted's.
-/
set_option maxRecDepth 100000
namespace Go.Proofs.YtonfkhkalodldabGreatDoor
open Go.RowKit Go.PlainAid
theorem parts_vals {l : List At} {T B M A : List Tr} {lw : ByteArray} {hv : Value} (hT : tats T = nf l) (h : Parts T lw B M A hv) {w : World} (hO : TOk w T) : Hdr w hv (vals l lw) := by
  rcases h.mid with ⟨hM, rfl⟩ | ⟨vs, hM⟩
  · have e : vals l lw = [] := by
      refine Classical.not_not.1 fun e => ?_
      have := nf_mem.2 ⟨(rfl : ((lw, vals l lw) : At).2 = vals l (lw, vals l lw).1), e⟩
      rw [← hT] at this
      obtain ⟨t, ht, e2⟩ := List.mem_map.1 this
      have e3 : t.1 = lw := congrArg Prod.fst e2
      rw [h.all, hM, List.append_nil] at ht
      rcases List.mem_append.1 ht with k | k
      · exact cs_ne (h.lo t k) e3
      · exact cs_ne (h.hi t k) e3.symm
    rw [e]; exact hdr_nil w
  · have hm : (lw, hv, vs) ∈ T := by rw [h.all, hM]; simp
    have h2 : (lw, vs) ∈ nf l := by rw [← hT]; exact List.mem_map.2 ⟨_, hm, rfl⟩
    have e := (nf_mem.1 h2).1
    have e' : vs = vals l lw := e
    rw [← e']
    exact hO _ hm
theorem parts_mid {l : List At} {T B M A : List Tr} {lw : ByteArray} {hv : Value} (hT : tats T = nf l) (h : Parts T lw B M A hv) : tats B ++ tats A = wthL l lw := by
  unfold wthL
  rw [← hT, h.all, tats_append, tats_append, List.filter_append, List.filter_append]
  have e1 : (tats B).filter (fun a => decide (a.1 ≠ lw)) = tats B := by
    rw [List.filter_eq_self]
    intro a ha
    obtain ⟨t, ht, rfl⟩ := List.mem_map.1 ha
    exact decide_eq_true (cs_ne (h.lo t ht))
  have e2 : (tats A).filter (fun a => decide (a.1 ≠ lw)) = tats A := by
    rw [List.filter_eq_self]
    intro a ha
    obtain ⟨t, ht, rfl⟩ := List.mem_map.1 ha
    exact decide_eq_true (cs_ne (h.hi t ht)).symm
  have e3 : (tats M).filter (fun a => decide (a.1 ≠ lw)) = [] := by
    rcases h.mid with ⟨hM, _⟩ | ⟨vs, hM⟩
    · rw [hM]; rfl
    · rw [hM]; simp [tats]
  rw [e1, e2, e3, List.append_nil]
theorem nf_names_asc {l : List At} {T : List Tr} (hT : tats T = nf l) : Asc ((tats T).map (·.1)) := by rw [hT]; exact (nf_NF l).asc
set_option maxRecDepth 100000 in
set_option maxHeartbeats 4000000 in
theorem get_s (ao : Option Addr) (n cap : Nat) (l : List At) (name : ByteArray) (w : World) (h : AttrsAt w ao n cap l) (hF : Few l) (hns : name.size ≤ 1100000) :
    Calls Tryz.prog 91 #[.slice ao n cap, .string name] w fun e w' => ∃ v, e = .returned v ∧ Hdr w' v (vals l (lowS name)) ∧ Below w.heap.size w w' := by
  have HR := Lib.hid (sorted_s ao n cap l w h hF)
  have hlen := Nat.le_trans (nf_len l) hF.len
  go_enter Tryz.func91, Tryz.ntmps91
  go_wp2_with fail
  refine HR.out.mono ?_
  rintro e w1 ⟨v, T, rfl, hT, hTO, _, hown, hb⟩
  obtain ⟨hTl, xo, xc, rfl, hat, _, hz, hp⟩ := ts_owns hown
  have HRD := Lib.hid (around_s xo T.length xc T name w1 hat (nf_names_asc hT) (by rw [← tats_len, hT]; exact hlen) hz hp hns)
  have HTO := Lib.hid hTO.ok
  have HB := Lib.hid hb
  have HT := Lib.hid hT
  clear HR h hF hat hTO hb hown hT hlen hz hp hTl
  go_wp2_with fail
  refine HRD.out.mono ?_
  rintro e w2 ⟨B, M, A, hv, bo, c, rfl, hP, _, _, _, hb⟩
  have hH := (parts_vals HT.out hP HTO.out).below hb
  go_wp2_with fail
  go_ret
  exact ⟨_, rfl, hH, HB.out.trans (hb.mono HB.out.size)⟩
theorem contains_mem (l : List ByteArray) (s : ByteArray) : Lib.containsS l s = memB l s := by
  rw [Bool.eq_iff_iff, memB_iff, Lib.containsS_iff]
set_option maxRecDepth 100000 in
set_option maxHeartbeats 4000000 in
theorem names_s (ao : Option Addr) (n cap : Nat) (l : List At) (w : World) (h : AttrsAt w ao n cap l) (hF : Few l) :
    Calls Tryz.prog 90 #[.slice ao n cap] w fun e w' => ∃ v, e = .returned v ∧ Hdr w' v (names l) ∧ Below w.heap.size w w' := by
  have HR := Lib.hid (sorted_s ao n cap l w h hF)
  have hlen := Nat.le_trans (nf_len l) hF.len
  go_enter Tryz.func90, Tryz.ntmps90
  go_wp2_with fail
  refine HR.out.mono ?_
  rintro e w1 ⟨v, T, rfl, hT, hTO, _, hown, hb⟩
  obtain ⟨_, xo, xc, rfl, hat, _⟩ := ts_owns hown
  have HTA := Lib.hid hat
  have HTK := Lib.hid hTO.ok
  have HB := Lib.hid hb
  have HT := Lib.hid hT
  have hTl : T.length ≤ 3000 := by rw [← tats_len, hT]; exact hlen
  have hxc : xc ≤ 9223372036854775807 := hat.2.2.1
  have HNL := Lib.hid (names_tlen hT)
  clear HR h hF hat hTO hb hown hT hlen
  obtain ⟨ns, hns⟩ : ∃ x, names l = x := ⟨_, rfl⟩
  have HNS := Lib.hid hns
  rw [hns] at HNL
  clear hns
  go_wp2_with fail
  go_loopw [3, 5, 9] (fun s3 s5 i wr => ∃ q : Nat, q ≤ T.length ∧ i = .int .i64 q ∧ wr.ownsRow w1.heap.size 9 1 s3 (ns.take q).length (scells (ns.take q)) ∧ Hid (Below w1.heap.size w1 wr)) (fun _ _ i _ => T.length - (intOf i).toNat)
  case atStart => exact ⟨0, Nat.zero_le _, rfl, World.ownsRow_nil _ _ _ _, Lib.hid (Below.refl _ _)⟩
  case round =>
    obtain ⟨q, hq, rfl, hown, HB2⟩ := hrel
    by_cases hlt : q < T.length
    · obtain ⟨b, off, rfl, hblt, _⟩ := HTA.out.2.2.2 (by omega)
      obtain ⟨a0, a1⟩ := ts_at HTA.out q hlt
      have a0 := cell_later HB2.out a0
      have a1 := cell_later HB2.out a1
      have HPN := Lib.hid (names_part HT.out q hlt)
      have hhd := HTK.out _ (tr_mem T q hlt)
      obtain ⟨x, hx⟩ : ∃ x, trD T q = x := ⟨_, rfl⟩
      rw [hx] at a0 a1 HPN hhd
      clear hx
      obtain ⟨p, hd, vs⟩ := x
      simp only [] at a0 a1 HPN hhd
      obtain ⟨ho, hnn, hcc, rfl, _⟩ := hhd
      rw [HNS.out] at HPN
      have HTS := Lib.hid (show ns.take (q + 1) = ns.take q ++ [p] by rw [HPN.out]; exact take_snoc ns q (by have := HNL.out; omega))
      have hql : (ns.take q).length ≤ 3000 := by rw [List.length_take]; omega
      have d1 : (q : Int) < (T.length : Int) := by omega
      have hsz := HB2.out.size
      have X1 := (abox_new wr p (.slice ho hnn hcc)).cells
      obtain ⟨x0, x1⟩ := X1
      have hown1 := hown.alloc (.cells #[.string p, .slice ho hnn hcc] 41)
      have hba : Below w1.heap.size w1 (wr.alloc (.cells #[.string p, .slice ho hnn hcc] 41)) := HB2.out.alloc hsz _
      have hszA := hba.size
      go_wp2_with (at_builtin; go_must (refine push_str (wr.alloc (.cells #[.string p, .slice ho hnn hcc] 41)) hown1 (.tmp 13) (.tmp 16) p ?_ ?_ ?_ ?_ ?_ ?_ ?_; exact rfl; exact rfl; exact rfl; (rw [World.size_alloc]; exact rfl); omega; exact hszA; intro v3 w3 hown3 hb3))
      go_roundw
      case rel => exact ⟨q + 1, by omega, by go_num, by rw [HTS.out, scells_snoc, List.length_append]; exact hown3, Lib.hid (hba.trans hb3)⟩
      case measure => simp [intOf]; omega
    · obtain rfl : T.length = q := by omega
      have HE := Lib.hid (show ns.take T.length = ns from List.take_of_length_le (by rw [HNL.out]; exact Nat.le_refl _))
      go_wp2_with fail
      go_ret
      rw [HE.out] at hown
      exact ⟨_, rfl, by rw [HNS.out]; exact hdr_owns hown, HB.out.trans (HB2.out.mono HB.out.size)⟩
end Go.Proofs.YtonfkhkalodldabGreatDoor
end

section
/-
  Contracts of attrs.joined and limited. Condition: at most 1000 attributes and 100000 values.
-/
set_option maxRecDepth 100000
namespace Go.Proofs.YtonfkhkalodldabGreatDoor
open Go.RowKit Go.PlainAid
/-- 'append(l, ats...)' where l has no room, and something is appended: the new row is the call's own -/
theorem app_grow {ops : Array Oper} {rest : List Oper} {o : Oper} {a : Act} {Q : Exit → Act → World → Prop} (wr : World) (s x : Operand) (ao : Option Addr) (ad : Addr) (n m c : Nat) (olds news : List Tr) (hgd : o.guard = none)
    (ho : o.op = .call { callee := .builtin .append, args := #[s, x], argTypes := #[26, 26] })
    (hs : a.eval s = .slice ao n n) (hx : a.eval x = .slice (some ad) m c) (hold : TsAt wr ao n n olds) (hnone : ao = none → n = 0) (hplain : ∀ ad, ao = some ad → ad.spot = none) (hw : TsAt wr (some ad) m c news) (hT : TOk wr news) (hm : 0 < m) (hn : n + m ≤ 1100000)
    (h : ∀ v' w', w'.ownsRow wr.heap.size 41 2 v' (n + m) (tcells (olds ++ news)) → Below wr.heap.size wr w' → wpList Tryz.prog ops Q rest (a.put o.dst v') w') :
    wpList Tryz.prog ops Q (o :: rest) a wr := by
  obtain ⟨i0, hi, hz0, hz1, hz2⟩ := info_parts info_attr
  cases ao with
  | none =>
    have e0 := hnone rfl
    subst e0
    have e1 : olds = [] := List.length_eq_zero_iff.1 hold.1
    subst e1
    refine app_attrs wr (World.ownsRow_nil wr wr.heap.size 41 2) s x (some ad) m c news hgd ho hs hx hw hT (by omega) (Nat.le_refl _) ?_
    intro v' w' h1 h2 _
    exact h v' w' h1 ((Below.refl _ wr).grown h2 (Nat.le_refl _) (fun k hk => by cases hk))
  | some bd =>
    have hsp := hplain bd rfl
    obtain ⟨b, off, spot⟩ := bd
    simp only at hsp
    subst hsp
    refine wpList_append_grows wr hgd s x 26 ho 41 i0 (.agg #[.string ⟨#[]⟩, .slice none 0 0]) 2 40 Tryz.underlying26 hi hz0 hz1 hz2 rfl (by decide) (some ⟨b, off, none⟩) n n (tcells olds) hs (fun e => by cases e) (by rw [tcells_len, hold.1])
      (fun ad had j u hj => by cases had; exact ts_news hold j u hj) ad m c (tcells news) hx (by rw [tcells_len, hw.1]) (ts_news hw) (tcells_one hT) (by omega) (by unfold maxLen; omega) (by omega) ?_
    intro v' w' h1 h2
    exact h v' w' (by rw [tcells_append]; exact h1) ((Below.refl _ wr).grown h2 (Nat.le_refl _) (fun k hk => by cases hk))
/-- the rest of a list beside the values' slice v: its rows and the slices of its values lie apart from v's -/
structure Beside (w : World) (base : Nat) (v : Value) (ao : Option Addr) (T : List Tr) : Prop where
  own : ∀ t ∈ T, w.ownsRow base 9 1 t.2.1 t.2.2.length (scells t.2.2) ∧ (t.2.1.ownBlock = none ∨ t.2.1.ownBlock ≠ v.ownBlock)
  row : ∀ b off, ao = some ⟨b, off, none⟩ → v.ownBlock ≠ some b
  lt : ∀ b off, ao = some ⟨b, off, none⟩ → b < w.heap.size
theorem Beside.below {w w' : World} {base : Nat} {v : Value} {ao : Option Addr} {T : List Tr} (h : Beside w base v ao T) (hb : Below w.heap.size w w') : Beside w' base v ao T := ⟨fun t ht => ⟨own_below (h.own t ht).1 hb, (h.own t ht).2⟩, h.row, fun b off e => Nat.lt_of_lt_of_le (h.lt b off e) hb.size⟩
theorem Beside.ok {w w' : World} {base : Nat} {v : Value} {ao : Option Addr} {T : List Tr} (h : Beside w base v ao T) (hg : w.grownBy w' v.ownBlock) : TOk w' T := fun t ht => hdr_owns ((h.own t ht).1.kept hg (h.own t ht).2)
theorem Beside.ts {w w' : World} {base n cap : Nat} {v : Value} {ao : Option Addr} {T : List Tr} (h : Beside w base v ao T) (hT : TsAt w ao n cap T) (hg : w.grownBy w' v.ownBlock) : TsAt w' ao n cap T :=
  hT.keep hg.size fun b off e hb => hg.block b hb fun k => h.row b off e k.symm
theorem grown_refl (w : World) (row : Option Nat) : w.grownBy w row := ⟨rfl, rfl, rfl, Nat.le_refl _, fun _ _ _ => rfl⟩
/-- a list put together of its parts -/
def joinL (B A : List At) (lw : ByteArray) (vs : List ByteArray) : List At := B ++ (if vs.length = 0 then [] else [(lw, sortU vs)]) ++ A
set_option maxRecDepth 100000 in
set_option maxHeartbeats 4000000 in
theorem joined_s (ao vo bo : Option Addr) (vn vc c base : Nat) (B A : List Tr) (name : ByteArray) (vs : List ByteArray) (w : World)
    (hB : TsAt w ao B.length B.length B) (hz : ao = none → B.length = 0) (hp : ∀ ad, ao = some ad → ad.spot = none) (hA : TsAt w bo A.length c A)
    (hBB : 0 < vn → Beside w base (.slice vo vn vc) ao B) (hBA : 0 < vn → Beside w base (.slice vo vn vc) bo A) (hOB : TOk w B) (hOA : TOk w A) (hv : 0 < vn → w.ownsRow base 9 1 (.slice vo vn vc) vn (scells vs)) (hvl : vs.length = vn)
    (hbl : B.length ≤ 3000) (hal : A.length ≤ 3000) (hvn : vn ≤ 1100000) (hns : name.size ≤ 1100000) (hbase : base ≤ w.heap.size) :
    Calls Tryz.prog 103 #[.slice ao B.length B.length, .string name, .slice vo vn vc, .slice bo A.length c] w fun e w' => ∃ xo xc, e = .returned (.slice xo (joinL (tats B) (tats A) (lowS name) vs).length xc) ∧ AttrsAt w' xo (joinL (tats B) (tats A) (lowS name) vs).length xc (joinL (tats B) (tats A) (lowS name) vs) ∧ Below base w w' := by
  have HB := Lib.hid hB
  have HA := Lib.hid hA
  have hcb : c ≤ 9223372036854775807 := hA.2.2.1
  clear hB hA
  by_cases h0 : 0 < vn
  · have hown := hv h0
    have HBB := Lib.hid (hBB h0)
    have HBA := Lib.hid (hBA h0)
    clear hBB hBA hOB hOA
    have hu0 := hown
    have d1 : decide ((0 : Int) < (vn : Int)) = true := decide_eq_true (by omega)
    have HJ := Lib.hid (show joinL (tats B) (tats A) (lowS name) vs = tats (B ++ [(lowS name, .slice none 0 0, sortU vs)] ++ A) by unfold joinL; rw [if_neg (by omega), tats_append, tats_append]; rfl)
    clear hv
    go_enter Tryz.func103, Tryz.ntmps103
    go_wp2_with fail
    refine (lower_s name w (by omega)).mono ?_
    rintro e w1 ⟨rfl, hb⟩
    have HB1 := Lib.hid (HB.out.below hb)
    have HA1 := Lib.hid (HA.out.below hb)
    have HBB1 := Lib.hid (HBB.out.below hb)
    have HBA1 := Lib.hid (HBA.out.below hb)
    have hown1 := own_below hown hb
    have HW1 := Lib.hid (hb.mono hbase)
    have hsz1 := hb.size
    obtain ⟨lw, hlw⟩ : ∃ x, lowS name = x := ⟨_, rfl⟩
    rw [hlw] at HJ
    have HLW := Lib.hid hlw
    rw [hlw]
    clear hlw
    clear hb hown hu0 HB HA HBB HBA
    go_wp2_with fail
    refine (ascending_s base vn (.slice vo vn vc) vs w1 hown1 hvl (by omega)).mono ?_
    rintro e w2 ⟨u, rfl, hu, hg, hub⟩
    have HB2 := Lib.hid (HBB1.out.ts HB1.out hg)
    have HA2 := Lib.hid (HBA1.out.ts HA1.out hg)
    have HTB := Lib.hid (HBB1.out.ok hg)
    have HTA := Lib.hid (HBA1.out.ok hg)
    have HHd := Lib.hid (hdr_owns hu)
    obtain ⟨un, hun⟩ : ∃ x, (sortU vs).length = x := ⟨_, rfl⟩
    rw [hun] at hu
    obtain ⟨uo, uc, rfl, _⟩ := strs_own hu hun
    have HUN := Lib.hid hun
    clear hun
    have HW2 := Lib.hid (HW1.out.grown hg (by omega) (fun q hq => (hown1.lt q hq).1))
    have hsz2 := hg.size
    clear hu hg hub hown1 HB1 HA1 HBB1 HBA1
    have tok : True := trivial
    go_wp2_with (first
      | (at_builtin; have _t := tok; go_must (refine app_grow (w2.alloc (.cells #[.string lw, .slice uo un uc] 41)) (.tmp 12) (.tmp 18) ao ⟨w2.heap.size, 0, none⟩ B.length 1 1 B [(lw, .slice uo un uc, sortU vs)] ?_ ?_ ?_ ?_ (HB2.out.below ((Below.refl _ w2).alloc (Nat.le_refl _) _)) hz hp (ts_new1 w2 (lw, .slice uo un uc, sortU vs)) ?_ ?_ ?_ ?_; exact rfl; exact rfl; exact rfl; exact rfl; exact (fun t ht => by rw [List.mem_singleton.1 ht]; exact HHd.out.below ((Below.refl _ w2).alloc (Nat.le_refl _) _)); omega; omega; intro v3 w3 hown3 hb3; clear tok; have hba : Below w2.heap.size w2 w3 := ((Below.refl w2.heap.size w2).alloc (Nat.le_refl _) _).trans (hb3.mono (by simp)); have HBW := Lib.hid hba; have HA3 := Lib.hid (HA2.out.below hba); have HTA3 := Lib.hid (HTA.out.below hba); have HTB3 := Lib.hid (HTB.out.below hba); have HH3 := Lib.hid (HHd.out.below hba); have HW3 := Lib.hid (HW2.out.trans (hba.mono (by omega))); have hsz3 := hba.size; have hsz4 := hb3.size))
      | (at_builtin; go_must (refine app_attrs w3 hown3 (.tmp 20) (.tmp 21) bo A.length c A ?_ ?_ ?_ ?_ HA3.out HTA3.out ?_ ?_ ?_; exact rfl; exact rfl; exact rfl; exact rfl; omega; exact hsz4; intro v4 w4 hown4 hg4 hl4)))
    have hown5 := hown4
    rw [← tcells_append] at hown5
    have hbw4 : Below w2.heap.size w2 w4 := HBW.out.grown hg4 hsz3 (fun q hq => by have := (hown3.lt q hq).1; simp at this; omega)
    obtain ⟨_, xo, xc, rfl, hat, _⟩ := ts_owns hown5
    have hJL : (joinL (tats B) (tats A) lw vs).length = B.length + 1 + A.length := by rw [HJ.out, tats_len, List.length_append, List.length_append]; rfl
    go_ret
    refine ⟨xo, xc, by rw [HLW.out, hJL]; rfl, ?_, HW2.out.trans (hbw4.mono (by omega))⟩
    rw [HLW.out, hJL, HJ.out]
    have e : tats (B ++ [(lw, Value.slice none 0 0, sortU vs)] ++ A) = tats (B ++ [(lw, Value.slice uo un uc, sortU vs)] ++ A) := by rw [tats_append, tats_append, tats_append, tats_append]; rfl
    rw [e]
    exact ts_ats hat (((HTB.out.below hbw4).app (fun t ht => by rw [List.mem_singleton.1 ht]; exact HHd.out.below hbw4)).app (HTA.out.below hbw4))
  · obtain rfl : vn = 0 := by omega
    have d1 : decide ((0 : Int) < ((0 : Nat) : Int)) = false := decide_eq_false (by omega)
    have HJ := Lib.hid (show joinL (tats B) (tats A) (lowS name) vs = tats (B ++ A) by unfold joinL; rw [if_pos hvl, List.append_nil, tats_append])
    have HJL := Lib.hid (show (joinL (tats B) (tats A) (lowS name) vs).length = B.length + A.length by rw [HJ.out, tats_len, List.length_append])
    have HTB := Lib.hid hOB
    have HTA := Lib.hid hOA
    clear hv hBB hBA hOB hOA
    go_enter Tryz.func103, Tryz.ntmps103
    go_wp2_with (at_builtin; go_must (refine app_onto w (.tmp 20) (.tmp 21) ao bo B.length A.length c B A ?_ ?_ ?_ ?_ HB.out hz hp HA.out HTB.out HTA.out ?_ ?_; exact rfl; exact rfl; exact rfl; exact rfl; omega; intro xo cap w' hat hb2 _ _ _))
    go_ret
    refine ⟨xo, cap, by rw [HJL.out]; rfl, ?_, hb2.mono hbase⟩
    rw [HJL.out, HJ.out]
    exact ts_ats hat ((HTB.out.app HTA.out).below hb2)
set_option maxRecDepth 100000 in
set_option maxHeartbeats 4000000 in
theorem limited_s (ao vo bo : Option Addr) (vn vc c base : Nat) (B A : List Tr) (name : ByteArray) (vs : List ByteArray) (w : World)
    (hB : TsAt w ao B.length B.length B) (hz : ao = none → B.length = 0) (hp : ∀ ad, ao = some ad → ad.spot = none) (hA : TsAt w bo A.length c A)
    (hBB : 0 < vn → Beside w base (.slice vo vn vc) ao B) (hBA : 0 < vn → Beside w base (.slice vo vn vc) bo A) (hOB : TOk w B) (hOA : TOk w A) (hv : 0 < vn → w.ownsRow base 9 1 (.slice vo vn vc) vn (scells vs)) (hvl : vs.length = vn)
    (hbl : B.length ≤ 3000) (hal : A.length ≤ 3000) (hvn : vn ≤ 1100000) (hns : name.size ≤ 1100000) (hbase : base ≤ w.heap.size) :
    Calls Tryz.prog 100 #[.slice ao B.length B.length, .string name, .slice vo vn vc, .slice bo A.length c] w fun e w' => ∃ v, e = .returned (.tuple #[v, .int .i64 (limR (joinL (tats B) (tats A) (lowS name) vs) vs.length).2]) ∧ AttsR w' v (limR (joinL (tats B) (tats A) (lowS name) vs) vs.length).1 ∧ Below base w w' := by
  have HJ := Lib.hid (joined_s ao vo bo vn vc c base B A name vs w hB hz hp hA hBB hBA hOB hOA hv hvl hbl hal hvn hns hbase)
  obtain ⟨J, hJ⟩ : ∃ x, joinL (tats B) (tats A) (lowS name) vs = x := ⟨_, rfl⟩
  rw [hJ] at HJ
  rw [hJ]
  have hjl : J.length ≤ 9000 := by
    rw [← hJ]; unfold joinL
    rw [List.length_append, List.length_append, tats_len, tats_len]
    split
    · simp; omega
    · simp; omega
  clear hJ hB hz hp hA hBB hBA hOB hOA hv
  go_enter Tryz.func100, Tryz.ntmps100
  go_wp2_with fail
  refine HJ.out.mono ?_
  rintro e w1 ⟨xo, xc, rfl, hat, hb⟩
  have HR : Hid (AttsR w1 (.slice xo J.length xc) J) := Lib.hid ⟨xo, _, xc, rfl, hat⟩
  have HB := Lib.hid hb
  clear hat hb HJ
  by_cases h1 : 32 < J.length
  · have d1 : decide ((32 : Int) < (J.length : Int)) = true := decide_eq_true (by omega)
    have HL := Lib.hid (show limR J vs.length = ([], 3) from if_pos (.inl h1))
    go_wp2_with fail
    go_ret2
    exact ⟨_, by rw [HL.out]; rfl, by rw [HL.out]; exact atts_nil _, HB.out⟩
  · have d1 : decide ((32 : Int) < (J.length : Int)) = false := decide_eq_false (by omega)
    by_cases h2 : 16 < vn
    · have d2 : decide ((16 : Int) < (vn : Int)) = true := decide_eq_true (by omega)
      have HL := Lib.hid (show limR J vs.length = ([], 3) from if_pos (.inr (by rw [hvl]; exact h2)))
      go_wp2_with fail
      go_ret2
      exact ⟨_, by rw [HL.out]; rfl, by rw [HL.out]; exact atts_nil _, HB.out⟩
    · have d2 : decide ((16 : Int) < (vn : Int)) = false := decide_eq_false (by omega)
      have HL := Lib.hid (show limR J vs.length = (J, 0) from if_neg (by rw [hvl]; omega))
      go_wp2_with fail
      go_ret2
      exact ⟨_, by rw [HL.out]; rfl, by rw [HL.out]; exact HR.out, HB.out⟩
end Go.Proofs.YtonfkhkalodldabGreatDoor
end
