/-
  Texts of the schema layer and of those beneath it, joined: AttP3, AttP4, AttP5, AttP6, AttP7, AttP8, AttP9, AttG1, CodecA, CodecB, ShelfB, CodecBuild. Conditions stand at each contract.
-/
import Derived.OwnWalk
import Derived.Shelf.SlicesG.Turned
import Derived.Shelf.SlicesE.Clone
import Derived.Shelf.SlicesE.DeleteFunc
import Derived.Shelf.SlicesG.Equal
import Derived.SizedLaws
import Derived.Lib.TrimByte
import Derived.Lib.Bytealg
import Derived.Lib.Builder
import Derived.Lib.AppendStr
import Derived.Laws.Externs
import Derived.Test.YtmmdaegdkikkpaaGreatDoorP01
import Derived.Test.YtmmdaegdkikkpaaGreatDoorP02
import Derived.Test.YtmmdaegdkikkpaaGreatDoorP03
import Derived.Test.YtmmdaegdkikkpaaGreatDoorP04
set_option linter.unusedVariables false
set_option linter.unusedSimpArgs false
set_option linter.unnecessarySimpa false

section
/-
  Contract of attrs.around. Condition: at most 1000 attributes whose names ascend.
-/
set_option maxRecDepth 100000
namespace Go.Proofs.YtmmdaegdkikkpaaGreatDoor
open Go.RowKit Go.PlainAid
/-- a list divided at a name -/
structure Parts (T : List Tr) (lw : ByteArray) (B M A : List Tr) (hv : Value) : Prop where
  all : T = B ++ M ++ A
  lo : ∀ t ∈ B, cmpS t.1 lw < 0
  hi : ∀ t ∈ A, cmpS lw t.1 < 0
  mid : (M = [] ∧ hv = .slice none 0 0) ∨ ∃ vs, M = [(lw, hv, vs)]
theorem mem_part {T : List Tr} {i : Nat} {t : Tr} (h : t ∈ T.take i) : ∃ j, j < i ∧ j < T.length ∧ trD T j = t := by
  obtain ⟨j, hj, rfl⟩ := List.mem_take_iff_getElem.1 h
  exact ⟨j, by omega, by omega, tr_get T j (by omega)⟩
theorem mem_rest {T : List Tr} {i : Nat} {t : Tr} (h : t ∈ T.drop i) : ∃ j, i ≤ j ∧ j < T.length ∧ trD T j = t := by
  obtain ⟨j, hj, rfl⟩ := List.mem_drop_iff_getElem.1 h
  exact ⟨i + j, by omega, by omega, by rw [tr_get T (i + j) (by omega)]⟩
theorem parts_none {T : List Tr} {lw : ByteArray} {i : Nat} (hA : Asc ((tats T).map (·.1))) (h : Found T lw i) (hn : ¬ (i < T.length ∧ (trD T i).1 = lw)) : Parts T lw (T.take i) [] (T.drop i) (.slice none 0 0) where
  all := by rw [List.append_nil, List.take_append_drop]
  lo t ht := by obtain ⟨j, h1, h2, rfl⟩ := mem_part ht; exact h.2.1 j h1
  hi t ht := by
    obtain ⟨j, h1, h2, rfl⟩ := mem_rest ht
    have hi' : cmpS lw (trD T i).1 < 0 := by
      have hge : ¬ cmpS (trD T i).1 lw < 0 := h.2.2 i (Nat.le_refl _) (by omega)
      rcases cs_tri (trD T i).1 lw with k | k | k
      · exact absurd k hge
      · exact absurd ⟨by omega, k⟩ hn
      · exact k
    rcases Nat.lt_or_eq_of_le h1 with k | k
    · exact cs_trans hi' (asc_mono hA k h2)
    · subst k; exact hi'
  mid := .inl ⟨rfl, rfl⟩
theorem parts_some {T : List Tr} {lw : ByteArray} {i : Nat} {hd : Value} {vs : List ByteArray} (hA : Asc ((tats T).map (·.1))) (h : Found T lw i) (hi : i < T.length) (e : trD T i = (lw, hd, vs)) : Parts T lw (T.take i) [(lw, hd, vs)] (T.drop (i + 1)) hd where
  all := by
    have h1 : T.take (i + 1) = T.take i ++ [trD T i] := tr_take T i hi
    rw [← e, ← h1, List.take_append_drop]
  lo t ht := by obtain ⟨j, h1, h2, rfl⟩ := mem_part ht; exact h.2.1 j h1
  hi t ht := by
    obtain ⟨j, h1, h2, rfl⟩ := mem_rest ht
    have := asc_mono hA (show i < j by omega) h2
    rw [e] at this
    exact this
  mid := .inr ⟨vs, rfl⟩
theorem ts_cut {w : World} {ao : Option Addr} {n cap : Nat} {T : List Tr} (h : TsAt w ao n cap T) (i : Nat) (hi : i ≤ n) : TsAt w ao i i (T.take i) := by
  obtain ⟨h1, h2, h3, h4⟩ := h
  refine ⟨by rw [List.length_take]; omega, Nat.le_refl _, by omega, fun hn => ?_⟩
  obtain ⟨b, off, e, hb, ha⟩ := h4 (by omega)
  refine ⟨b, off, e, hb, fun j u hj => ha j u ?_⟩
  rw [← tcells_take, List.getElem?_take] at hj
  split at hj
  · exact hj
  · cases hj
theorem ts_rest {w : World} {b off n cap : Nat} {T : List Tr} (h : TsAt w (some ⟨b, off, none⟩) n cap T) (i : Nat) (hi : i ≤ n) : TsAt w (some ⟨b, off + i * 2, none⟩) (n - i) (cap - i) (T.drop i) := by
  obtain ⟨h1, h2, h3, h4⟩ := h
  refine ⟨by rw [List.length_drop]; omega, by omega, by omega, fun hn => ?_⟩
  obtain ⟨b', off', e, hb, ha⟩ := h4 (by omega)
  cases e
  refine ⟨b, off + i * 2, rfl, hb, fun j u hj => ?_⟩
  rw [← tcells_drop T i (by omega), List.getElem?_drop] at hj
  rw [Nat.add_assoc]
  exact ha _ _ hj
theorem ts_none {w : World} {ao bo : Option Addr} {n cap c : Nat} {T : List Tr} (h : TsAt w ao n cap T) (i : Nat) (hi : n ≤ i) (hc : c ≤ maxLen) : TsAt w bo 0 c (T.drop i) := by
  have e : T.drop i = [] := List.drop_of_length_le (by rw [h.1]; exact hi)
  rw [e]
  exact ts_nil w bo c hc
/-- where a part lies -/
def Lies (ao bo : Option Addr) : Prop := ∀ ad, bo = some ad → ∃ b off off', ad = ⟨b, off, none⟩ ∧ ao = some ⟨b, off', none⟩
set_option maxRecDepth 100000 in
set_option maxHeartbeats 8000000 in
theorem around_s (ao : Option Addr) (n cap : Nat) (T : List Tr) (name : ByteArray) (w : World) (h : TsAt w ao n cap T) (hA : Asc ((tats T).map (·.1))) (hn : n ≤ 1000) (hz : ao = none → cap = 0) (hp : ∀ ad, ao = some ad → ad.spot = none) (hns : name.size ≤ 1000000) :
    Calls Tryz.prog 219 #[.slice ao n cap, .string name] w fun e w' => ∃ (B M A : List Tr) (hv : Value) (bo : Option Addr) (c : Nat), e = .returned (.tuple #[.slice ao B.length B.length, hv, .slice bo A.length c]) ∧
      Parts T (lowS name) B M A hv ∧ TsAt w' ao B.length B.length B ∧ TsAt w' bo A.length c A ∧ Lies ao bo ∧ Below w.heap.size w w' := by
  have hTl : T.length = n := h.1
  have HS0 := Lib.hid (fun lw w1 (hb : Below w.heap.size w w1) => search_s ao n cap T lw w1 (h.below hb) hA hn)
  have HT := Lib.hid h
  have HA := Lib.hid hA
  have hcn : n ≤ cap := h.2.1
  have hcm : cap ≤ 9223372036854775807 := h.2.2.1
  clear h hA
  obtain ⟨lw, hlw⟩ : ∃ x, lowS name = x := ⟨_, rfl⟩
  have HLW := Lib.hid hlw
  rw [hlw]
  clear hlw
  go_enter Tryz.func219, Tryz.ntmps219
  go_wp2_with fail
  refine (lower_s name w (by omega)).mono ?_
  rintro e w1 ⟨rfl, hb⟩
  rw [HLW.out]
  have HS := Lib.hid (HS0.out lw w1 hb)
  have HB1 := Lib.hid hb
  clear HS0 hb
  go_wp2_with fail
  refine HS.out.mono ?_
  rintro e w2 ⟨i, rfl, hfd, hb⟩
  have hin : i ≤ n := by rw [← hTl]; exact hfd.1
  have HFD := Lib.hid hfd
  have HB2 := Lib.hid (HB1.out.trans (hb.mono HB1.out.size))
  have HT2 := Lib.hid (HT.out.below HB2.out)
  clear hfd hb HS HB1
  have HBd : Hid (Below w.heap.size w w2.drew) := Lib.hid HB2.out.drew
  have k0 : (0 : Int) ≤ (i : Int) := by omega
  have k1 : (i : Int) ≤ (cap : Int) := by omega
  have k2 : (i : Int) ≤ (n : Int) := by omega
  have hBl : (T.take i).length = i := by rw [List.length_take]; omega
  cases ao with
  | none =>
    have hc0 := hz rfl
    subst hc0
    obtain rfl : n = 0 := by omega
    obtain rfl : i = 0 := by omega
    have hf : decide (0 < 0 ∧ (trD T 0).1 = lw) = false := by simp
    rw [hf]
    have HP := Lib.hid (parts_none (lw := lw) HA.out HFD.out (by omega))
    go_wp2_with fail
    refine wp_region_held_drew (S := fun W => Hid (Below w.heap.size w W)) (by kernel_rfl) (HBd) (fun hS => ?_)
    refine wpAnyH_take (i := 0) (oi := { dst := some 16, op := _, type := _, pos := _, after := _, guard := _ }) (v := ?_) rfl (by kernel_rfl) (by kernel_rfl) (by kernel_rfl) (fun _ _ _ h => h) (Or.inl ⟨by rfl, ?_⟩) (by assumption) ?_
    rotate_left
    · intro w hSw
      try dsimp only at hSw
      go_simp
      try with_reducible rfl
    try simp only [Act.put, List.setIfInBounds_toArray, List.set_cons_zero, List.set_cons_succ]
    refine wpAnyH_take (i := 1) (oi := { dst := some 17, op := _, type := _, pos := _, after := _, guard := _ }) (v := ?_) rfl (by kernel_rfl) (by kernel_rfl) (by kernel_rfl) (fun _ _ _ h => h) (Or.inl ⟨by rfl, ?_⟩) (by assumption) ?_
    rotate_left
    · intro w hSw
      try dsimp only at hSw
      go_simp
      try with_reducible rfl
    try simp only [Act.put, List.setIfInBounds_toArray, List.set_cons_zero, List.set_cons_succ]
    refine wpAnyH_take (i := 2) (oi := { dst := some 18, op := _, type := _, pos := _, after := _, guard := _ }) (v := ?_) rfl (by kernel_rfl) (by kernel_rfl) (by kernel_rfl) (fun _ _ _ h => h) (Or.inl ⟨by rfl, ?_⟩) (by assumption) ?_
    rotate_left
    · intro w hSw
      try dsimp only at hSw
      go_simp
      try with_reducible rfl
    try simp only [Act.put, List.setIfInBounds_toArray, List.set_cons_zero, List.set_cons_succ]
    refine wpAnyH_take (i := 3) (oi := { dst := some 19, op := _, type := _, pos := _, after := _, guard := _ }) (v := ?_) rfl (by kernel_rfl) (by kernel_rfl) (by kernel_rfl) (fun _ _ _ h => h) (Or.inl ⟨by rfl, ?_⟩) (by assumption) ?_
    rotate_left
    · intro w hSw
      try dsimp only at hSw
      go_simp
      try with_reducible rfl
    try simp only [Act.put, List.setIfInBounds_toArray, List.set_cons_zero, List.set_cons_succ]
    refine wpAnyH_take (i := 4) (oi := { dst := some 20, op := _, type := _, pos := _, after := _, guard := _ }) (v := ?_) rfl (by kernel_rfl) (by kernel_rfl) (by kernel_rfl) (fun _ _ _ h => h) (Or.inl ⟨by rfl, ?_⟩) (by assumption) ?_
    rotate_left
    · intro w hSw
      try dsimp only at hSw
      go_simp
      try with_reducible rfl
    try simp only [Act.put, List.setIfInBounds_toArray, List.set_cons_zero, List.set_cons_succ]
    refine wpAnyH_take (i := 5) (oi := { dst := some 21, op := _, type := _, pos := _, after := _, guard := _ }) (v := ?_) rfl (by kernel_rfl) (by kernel_rfl) (by kernel_rfl) (fun _ _ _ h => h) (Or.inl ⟨by rfl, ?_⟩) (by assumption) ?_
    rotate_left
    · intro w hSw
      try dsimp only at hSw
      go_simp
      try with_reducible rfl
    try simp only [Act.put, List.setIfInBounds_toArray, List.set_cons_zero, List.set_cons_succ]
    refine wpAnyH_take (i := 6) (oi := { dst := some 22, op := _, type := _, pos := _, after := _, guard := _ }) (v := ?_) rfl (by kernel_rfl) (by kernel_rfl) (by kernel_rfl) (fun _ _ _ h => h) (Or.inl ⟨by rfl, ?_⟩) (by assumption) ?_
    rotate_left
    · intro w hSw
      try dsimp only at hSw
      go_simp
      try with_reducible rfl
    try simp only [Act.put, List.setIfInBounds_toArray, List.set_cons_zero, List.set_cons_succ]
    refine wpAnyH_take (i := 7) (oi := { dst := some 4, op := _, type := _, pos := _, after := _, guard := _ }) (v := ?_) rfl (by kernel_rfl) (by kernel_rfl) (by kernel_rfl) (fun _ _ _ h => h) (Or.inl ⟨by rfl, ?_⟩) (by assumption) ?_
    rotate_left
    · intro w hSw
      try dsimp only at hSw
      go_simp
      try with_reducible rfl
    try simp only [Act.put, List.setIfInBounds_toArray, List.set_cons_zero, List.set_cons_succ]
    refine wpAnyH_take (i := 8) (oi := { dst := some 6, op := _, type := _, pos := _, after := _, guard := _ }) (v := ?_) rfl (by kernel_rfl) (by kernel_rfl) (by kernel_rfl) (fun _ _ _ h => h) (Or.inl ⟨by rfl, ?_⟩) (by assumption) ?_
    rotate_left
    · intro w hSw
      try dsimp only at hSw
      go_simp
      try with_reducible rfl
    try simp only [Act.put, List.setIfInBounds_toArray, List.set_cons_zero, List.set_cons_succ]
    refine wpAnyH_done (by kernel_rfl) ?_ _
    go_wp2_with fail
    go_ret3
    have hT0 : T = [] := List.length_eq_zero_iff.1 hTl
    subst hT0
    exact ⟨[], [], [], _, none, 0, rfl, HP.out, ts_nil _ _ _ (by unfold maxLen; omega), ts_nil _ _ _ (by unfold maxLen; omega), (fun ad e => by cases e), HBd.out⟩
  | some ad =>
    have hsp := hp ad rfl
    obtain ⟨b, off, spot⟩ := ad
    simp only at hsp
    subst hsp
    have hT2d : Hid (TsAt w2.drew (some ⟨b, off, none⟩) n cap T) := Lib.hid (HT2.out.below (Below.refl _ w2).drew)
    have HTB := Lib.hid (ts_cut hT2d.out i hin)
    by_cases hic : i < cap
    · have k3 : (i : Int) < (cap : Int) := by omega
      have k4 : ¬ cap = i := by omega
      by_cases hfo : i < n ∧ (trD T i).1 = lw
      · have hf : decide (i < n ∧ (trD T i).1 = lw) = true := decide_eq_true hfo
        rw [hf]
        obtain ⟨hfi, hfe⟩ := hfo
        obtain ⟨a0, a1⟩ := ts_at hT2d.out i hfi
        obtain ⟨x, hx⟩ : ∃ x, trD T i = x := ⟨_, rfl⟩
        rw [hx] at a1 hfe
        have HX := Lib.hid hx
        clear hx a0
        obtain ⟨p, hd, vs⟩ := x
        simp only [] at a1 hfe
        subst hfe
        have HP := Lib.hid (parts_some HA.out HFD.out (by omega) HX.out)
        have HTA := Lib.hid (ts_rest hT2d.out (i + 1) (by omega))
        have HTN := Lib.hid (fun (bo : Option Addr) (c : Nat) => ts_none (bo := bo) (c := c) hT2d.out (i + 1))
        have hAl : (T.drop (i + 1)).length = n - (i + 1) := by rw [List.length_drop]; omega
        go_wp2_with fail
        refine wp_region_held_drew (S := fun W => Hid (Below w.heap.size w W)) (by kernel_rfl) (HBd) (fun hS => ?_)
        refine wpAnyH_take (i := 0) (oi := { dst := some 16, op := _, type := _, pos := _, after := _, guard := _ }) (v := ?_) rfl (by kernel_rfl) (by kernel_rfl) (by kernel_rfl) (fun _ _ _ h => h) (Or.inl ⟨by rfl, ?_⟩) (by assumption) ?_
        rotate_left
        · intro w hSw
          try dsimp only at hSw
          go_simp
          try with_reducible rfl
        try simp only [Act.put, List.setIfInBounds_toArray, List.set_cons_zero, List.set_cons_succ]
        refine wpAnyH_take (i := 1) (oi := { dst := some 17, op := _, type := _, pos := _, after := _, guard := _ }) (v := ?_) rfl (by kernel_rfl) (by kernel_rfl) (by kernel_rfl) (fun _ _ _ h => h) (Or.inl ⟨by rfl, ?_⟩) (by assumption) ?_
        rotate_left
        · intro w hSw
          try dsimp only at hSw
          go_simp
          try with_reducible rfl
        try simp only [Act.put, List.setIfInBounds_toArray, List.set_cons_zero, List.set_cons_succ]
        refine wpAnyH_take (i := 2) (oi := { dst := some 18, op := _, type := _, pos := _, after := _, guard := _ }) (v := ?_) rfl (by kernel_rfl) (by kernel_rfl) (by kernel_rfl) (fun _ _ _ h => h) (Or.inl ⟨by rfl, ?_⟩) (by assumption) ?_
        rotate_left
        · intro w hSw
          try dsimp only at hSw
          go_simp
          try with_reducible rfl
        try simp only [Act.put, List.setIfInBounds_toArray, List.set_cons_zero, List.set_cons_succ]
        refine wpAnyH_take (i := 3) (oi := { dst := some 19, op := _, type := _, pos := _, after := _, guard := _ }) (v := ?_) rfl (by kernel_rfl) (by kernel_rfl) (by kernel_rfl) (fun _ _ _ h => h) (Or.inl ⟨by rfl, ?_⟩) (by assumption) ?_
        rotate_left
        · intro w hSw
          try dsimp only at hSw
          go_simp
          try with_reducible rfl
        try simp only [Act.put, List.setIfInBounds_toArray, List.set_cons_zero, List.set_cons_succ]
        refine wpAnyH_take (i := 4) (oi := { dst := some 20, op := _, type := _, pos := _, after := _, guard := _ }) (v := ?_) rfl (by kernel_rfl) (by kernel_rfl) (by kernel_rfl) (fun _ _ _ h => h) (Or.inl ⟨by rfl, ?_⟩) (by assumption) ?_
        rotate_left
        · intro w hSw
          try dsimp only at hSw
          go_simp
          try with_reducible rfl
        try simp only [Act.put, List.setIfInBounds_toArray, List.set_cons_zero, List.set_cons_succ]
        refine wpAnyH_take (i := 5) (oi := { dst := some 21, op := _, type := _, pos := _, after := _, guard := _ }) (v := ?_) rfl (by kernel_rfl) (by kernel_rfl) (by kernel_rfl) (fun _ _ _ h => h) (Or.inl ⟨by rfl, ?_⟩) (by assumption) ?_
        rotate_left
        · intro w hSw
          try dsimp only at hSw
          go_simp
          try with_reducible rfl
        try simp only [Act.put, List.setIfInBounds_toArray, List.set_cons_zero, List.set_cons_succ]
        refine wpAnyH_take (i := 6) (oi := { dst := some 22, op := _, type := _, pos := _, after := _, guard := _ }) (v := ?_) rfl (by kernel_rfl) (by kernel_rfl) (by kernel_rfl) (fun _ _ _ h => h) (Or.inl ⟨by rfl, ?_⟩) (by assumption) ?_
        rotate_left
        · intro w hSw
          try dsimp only at hSw
          go_simp
          try with_reducible rfl
        try simp only [Act.put, List.setIfInBounds_toArray, List.set_cons_zero, List.set_cons_succ]
        refine wpAnyH_take (i := 7) (oi := { dst := some 4, op := _, type := _, pos := _, after := _, guard := _ }) (v := ?_) rfl (by kernel_rfl) (by kernel_rfl) (by kernel_rfl) (fun _ _ _ h => h) (Or.inl ⟨by rfl, ?_⟩) (by assumption) ?_
        rotate_left
        · intro w hSw
          try dsimp only at hSw
          go_simp
          try with_reducible rfl
        try simp only [Act.put, List.setIfInBounds_toArray, List.set_cons_zero, List.set_cons_succ]
        refine wpAnyH_take (i := 8) (oi := { dst := some 6, op := _, type := _, pos := _, after := _, guard := _ }) (v := ?_) rfl (by kernel_rfl) (by kernel_rfl) (by kernel_rfl) (fun _ _ _ h => h) (Or.inl ⟨by rfl, ?_⟩) (by assumption) ?_
        rotate_left
        · intro w hSw
          try dsimp only at hSw
          go_simp
          try with_reducible rfl
        try simp only [Act.put, List.setIfInBounds_toArray, List.set_cons_zero, List.set_cons_succ]
        refine wpAnyH_done (by kernel_rfl) ?_ _
        obtain ⟨m, hm⟩ : ∃ x, n - i = x := ⟨_, rfl⟩
        obtain ⟨c, hc⟩ : ∃ x, cap - i = x := ⟨_, rfl⟩
        have hm0 : 0 < m := by omega
        have hmc : m ≤ c := by omega
        have m1 : (0 : Int) < (m : Int) := by omega
        have m2 : (1 : Int) ≤ (m : Int) := by omega
        have m3 : (1 : Int) ≤ (c : Int) := by omega
        have hcb : c ≤ 9223372036854775807 := by omega
        have a1d : w2.drew.drew.cell? ⟨b, off + i * 2 + 1, none⟩ = some hd := a1
        have HBdd : Hid (Below w.heap.size w w2.drew.drew) := Lib.hid HBd.out.drew
        by_cases hc1 : c = 1
        · subst hc1
          have hAl2 : (T.drop (i + 1)).length = 0 := by omega
          go_wp2_with fail
          rw [hm, hc]
          refine wp_region_held_drew (S := fun W => W.cell? ⟨b, off + i * 2 + 1, none⟩ = some hd ∧ Hid (Below w.heap.size w W)) (by kernel_rfl) (⟨a1d, HBdd⟩) (fun hS => ?_)
          refine wpAnyH_take (i := 0) (oi := { dst := some 24, op := _, type := _, pos := _, after := _, guard := _ }) (v := ?_) rfl (by kernel_rfl) (by kernel_rfl) (by kernel_rfl) (fun _ _ _ h => h) (Or.inl ⟨by rfl, ?_⟩) (by assumption) ?_
          rotate_left
          · intro w hSw
            try dsimp only at hSw
            go_simp
            try with_reducible rfl
          try simp only [Act.put, List.setIfInBounds_toArray, List.set_cons_zero, List.set_cons_succ]
          refine wpAnyH_take (i := 1) (oi := { dst := some 25, op := _, type := _, pos := _, after := _, guard := _ }) (v := ?_) rfl (by kernel_rfl) (by kernel_rfl) (by kernel_rfl) (fun _ _ _ h => h) (Or.inl ⟨by rfl, ?_⟩) (by assumption) ?_
          rotate_left
          · intro w hSw
            try dsimp only at hSw
            go_simp
            try with_reducible rfl
          try simp only [Act.put, List.setIfInBounds_toArray, List.set_cons_zero, List.set_cons_succ]
          refine wpAnyH_take (i := 2) (oi := { dst := some 26, op := _, type := _, pos := _, after := _, guard := _ }) (v := ?_) rfl (by kernel_rfl) (by kernel_rfl) (by kernel_rfl) (fun _ _ _ h => h) (Or.inl ⟨by rfl, ?_⟩) (by assumption) ?_
          rotate_left
          · intro w hSw
            try dsimp only at hSw
            go_simp
            try with_reducible rfl
          try simp only [Act.put, List.setIfInBounds_toArray, List.set_cons_zero, List.set_cons_succ]
          refine wpAnyH_take (i := 3) (oi := { dst := some 27, op := _, type := _, pos := _, after := _, guard := _ }) (v := ?_) rfl (by kernel_rfl) (by kernel_rfl) (by kernel_rfl) (fun _ _ _ h => h) (Or.inl ⟨by rfl, ?_⟩) (by assumption) ?_
          rotate_left
          · intro w hSw
            try dsimp only at hSw
            go_simp
            try with_reducible rfl
          try simp only [Act.put, List.setIfInBounds_toArray, List.set_cons_zero, List.set_cons_succ]
          refine wpAnyH_take (i := 4) (oi := { dst := some 28, op := _, type := _, pos := _, after := _, guard := _ }) (v := ?_) rfl (by kernel_rfl) (by kernel_rfl) (by kernel_rfl) (fun _ _ _ h => h) (Or.inl ⟨by rfl, ?_⟩) (by assumption) ?_
          rotate_left
          · intro w hSw
            try dsimp only at hSw
            go_simp
            try with_reducible rfl
          try simp only [Act.put, List.setIfInBounds_toArray, List.set_cons_zero, List.set_cons_succ]
          refine wpAnyH_take (i := 5) (oi := { dst := some 29, op := _, type := _, pos := _, after := _, guard := _ }) (v := ?_) rfl (by kernel_rfl) (by kernel_rfl) (by kernel_rfl) (fun _ _ _ h => h) (Or.inl ⟨by rfl, ?_⟩) (by assumption) ?_
          rotate_left
          · intro w hSw
            try dsimp only at hSw
            go_simp
            try with_reducible rfl
          try simp only [Act.put, List.setIfInBounds_toArray, List.set_cons_zero, List.set_cons_succ]
          refine wpAnyH_take (i := 6) (oi := { dst := some 5, op := _, type := _, pos := _, after := _, guard := _ }) (v := ?_) rfl (by kernel_rfl) (by kernel_rfl) (by kernel_rfl) (fun _ _ _ h => h) (Or.inl ⟨by rfl, ?_⟩) (by assumption) ?_
          rotate_left
          · intro w hSw
            try dsimp only at hSw
            go_simp
            try with_reducible rfl
          try simp only [Act.put, List.setIfInBounds_toArray, List.set_cons_zero, List.set_cons_succ]
          refine wpAnyH_take (i := 7) (oi := { dst := some 6, op := _, type := _, pos := _, after := _, guard := _ }) (v := ?_) rfl (by kernel_rfl) (by kernel_rfl) (by kernel_rfl) (fun _ _ _ h => h) (Or.inl ⟨by rfl, ?_⟩) (by assumption) ?_
          rotate_left
          · intro w hSw
            try dsimp only at hSw
            go_simp
            try with_reducible rfl
          try simp only [Act.put, List.setIfInBounds_toArray, List.set_cons_zero, List.set_cons_succ]
          refine wpAnyH_done (by kernel_rfl) ?_ _
          go_wp2_with fail
          go_ret3
          have hTN := HTN.out (some ⟨b, off + i * 2, none⟩) 0 (by omega) (by unfold maxLen; omega)
          have hmm : m - 1 = 0 := by omega
          exact ⟨T.take i, [(p, hd, vs)], T.drop (i + 1), hd, some ⟨b, off + i * 2, none⟩, 0, by rw [hBl, hAl2, ← hmm]; rfl, HP.out, by rw [hBl]; exact HTB.out, by rw [hAl2]; exact hTN, fun ad e => by cases e; exact ⟨b, off + i * 2, off, rfl, rfl⟩, HBdd.out⟩
        · have m4 : (1 : Int) < (c : Int) := by omega
          have m5 : ¬ c = 1 := hc1
          go_wp2_with fail
          rw [hm, hc]
          refine wp_region_held_drew (S := fun W => W.cell? ⟨b, off + i * 2 + 1, none⟩ = some hd ∧ Hid (Below w.heap.size w W)) (by kernel_rfl) (⟨a1d, HBdd⟩) (fun hS => ?_)
          refine wpAnyH_take (i := 0) (oi := { dst := some 24, op := _, type := _, pos := _, after := _, guard := _ }) (v := ?_) rfl (by kernel_rfl) (by kernel_rfl) (by kernel_rfl) (fun _ _ _ h => h) (Or.inl ⟨by rfl, ?_⟩) (by assumption) ?_
          rotate_left
          · intro w hSw
            try dsimp only at hSw
            go_simp
            try with_reducible rfl
          try simp only [Act.put, List.setIfInBounds_toArray, List.set_cons_zero, List.set_cons_succ]
          refine wpAnyH_take (i := 1) (oi := { dst := some 25, op := _, type := _, pos := _, after := _, guard := _ }) (v := ?_) rfl (by kernel_rfl) (by kernel_rfl) (by kernel_rfl) (fun _ _ _ h => h) (Or.inl ⟨by rfl, ?_⟩) (by assumption) ?_
          rotate_left
          · intro w hSw
            try dsimp only at hSw
            go_simp
            try with_reducible rfl
          try simp only [Act.put, List.setIfInBounds_toArray, List.set_cons_zero, List.set_cons_succ]
          refine wpAnyH_take (i := 2) (oi := { dst := some 26, op := _, type := _, pos := _, after := _, guard := _ }) (v := ?_) rfl (by kernel_rfl) (by kernel_rfl) (by kernel_rfl) (fun _ _ _ h => h) (Or.inl ⟨by rfl, ?_⟩) (by assumption) ?_
          rotate_left
          · intro w hSw
            try dsimp only at hSw
            go_simp
            try with_reducible rfl
          try simp only [Act.put, List.setIfInBounds_toArray, List.set_cons_zero, List.set_cons_succ]
          refine wpAnyH_take (i := 3) (oi := { dst := some 27, op := _, type := _, pos := _, after := _, guard := _ }) (v := ?_) rfl (by kernel_rfl) (by kernel_rfl) (by kernel_rfl) (fun _ _ _ h => h) (Or.inl ⟨by rfl, ?_⟩) (by assumption) ?_
          rotate_left
          · intro w hSw
            try dsimp only at hSw
            go_simp
            try with_reducible rfl
          try simp only [Act.put, List.setIfInBounds_toArray, List.set_cons_zero, List.set_cons_succ]
          refine wpAnyH_take (i := 4) (oi := { dst := some 28, op := _, type := _, pos := _, after := _, guard := _ }) (v := ?_) rfl (by kernel_rfl) (by kernel_rfl) (by kernel_rfl) (fun _ _ _ h => h) (Or.inl ⟨by rfl, ?_⟩) (by assumption) ?_
          rotate_left
          · intro w hSw
            try dsimp only at hSw
            go_simp
            try with_reducible rfl
          try simp only [Act.put, List.setIfInBounds_toArray, List.set_cons_zero, List.set_cons_succ]
          refine wpAnyH_take (i := 5) (oi := { dst := some 29, op := _, type := _, pos := _, after := _, guard := _ }) (v := ?_) rfl (by kernel_rfl) (by kernel_rfl) (by kernel_rfl) (fun _ _ _ h => h) (Or.inl ⟨by rfl, ?_⟩) (by assumption) ?_
          rotate_left
          · intro w hSw
            try dsimp only at hSw
            go_simp
            try with_reducible rfl
          try simp only [Act.put, List.setIfInBounds_toArray, List.set_cons_zero, List.set_cons_succ]
          refine wpAnyH_take (i := 6) (oi := { dst := some 5, op := _, type := _, pos := _, after := _, guard := _ }) (v := ?_) rfl (by kernel_rfl) (by kernel_rfl) (by kernel_rfl) (fun _ _ _ h => h) (Or.inl ⟨by rfl, ?_⟩) (by assumption) ?_
          rotate_left
          · intro w hSw
            try dsimp only at hSw
            go_simp
            try with_reducible rfl
          try simp only [Act.put, List.setIfInBounds_toArray, List.set_cons_zero, List.set_cons_succ]
          refine wpAnyH_take (i := 7) (oi := { dst := some 6, op := _, type := _, pos := _, after := _, guard := _ }) (v := ?_) rfl (by kernel_rfl) (by kernel_rfl) (by kernel_rfl) (fun _ _ _ h => h) (Or.inl ⟨by rfl, ?_⟩) (by assumption) ?_
          rotate_left
          · intro w hSw
            try dsimp only at hSw
            go_simp
            try with_reducible rfl
          try simp only [Act.put, List.setIfInBounds_toArray, List.set_cons_zero, List.set_cons_succ]
          refine wpAnyH_done (by kernel_rfl) ?_ _
          go_wp2_with fail
          go_ret3
          have e1 : n - (i + 1) = m - 1 := by omega
          have e2 : cap - (i + 1) = c - 1 := by omega
          have e3 : off + (i + 1) * 2 = off + i * 2 + 2 := by omega
          have hTA := HTA.out
          rw [e1, e2, e3] at hTA
          rw [e1] at hAl
          exact ⟨T.take i, [(p, hd, vs)], T.drop (i + 1), hd, some ⟨b, off + i * 2 + 2, none⟩, c - 1, by rw [hBl, hAl]; rfl, HP.out, by rw [hBl]; exact HTB.out, by rw [hAl]; exact hTA, fun ad e => by cases e; exact ⟨b, off + i * 2 + 2, off, rfl, rfl⟩, HBdd.out⟩
      · have hf : decide (i < n ∧ (trD T i).1 = lw) = false := decide_eq_false hfo
        rw [hf]
        have HP := Lib.hid (parts_none (lw := lw) HA.out HFD.out (by rw [hTl]; exact hfo))
        have HTA := Lib.hid (ts_rest hT2d.out i hin)
        have hAl : (T.drop i).length = n - i := by rw [List.length_drop]; omega
        go_wp2_with fail
        refine wp_region_held_drew (S := fun W => Hid (Below w.heap.size w W)) (by kernel_rfl) (HBd) (fun hS => ?_)
        refine wpAnyH_take (i := 0) (oi := { dst := some 16, op := _, type := _, pos := _, after := _, guard := _ }) (v := ?_) rfl (by kernel_rfl) (by kernel_rfl) (by kernel_rfl) (fun _ _ _ h => h) (Or.inl ⟨by rfl, ?_⟩) (by assumption) ?_
        rotate_left
        · intro w hSw
          try dsimp only at hSw
          go_simp
          try with_reducible rfl
        try simp only [Act.put, List.setIfInBounds_toArray, List.set_cons_zero, List.set_cons_succ]
        refine wpAnyH_take (i := 1) (oi := { dst := some 17, op := _, type := _, pos := _, after := _, guard := _ }) (v := ?_) rfl (by kernel_rfl) (by kernel_rfl) (by kernel_rfl) (fun _ _ _ h => h) (Or.inl ⟨by rfl, ?_⟩) (by assumption) ?_
        rotate_left
        · intro w hSw
          try dsimp only at hSw
          go_simp
          try with_reducible rfl
        try simp only [Act.put, List.setIfInBounds_toArray, List.set_cons_zero, List.set_cons_succ]
        refine wpAnyH_take (i := 2) (oi := { dst := some 18, op := _, type := _, pos := _, after := _, guard := _ }) (v := ?_) rfl (by kernel_rfl) (by kernel_rfl) (by kernel_rfl) (fun _ _ _ h => h) (Or.inl ⟨by rfl, ?_⟩) (by assumption) ?_
        rotate_left
        · intro w hSw
          try dsimp only at hSw
          go_simp
          try with_reducible rfl
        try simp only [Act.put, List.setIfInBounds_toArray, List.set_cons_zero, List.set_cons_succ]
        refine wpAnyH_take (i := 3) (oi := { dst := some 19, op := _, type := _, pos := _, after := _, guard := _ }) (v := ?_) rfl (by kernel_rfl) (by kernel_rfl) (by kernel_rfl) (fun _ _ _ h => h) (Or.inl ⟨by rfl, ?_⟩) (by assumption) ?_
        rotate_left
        · intro w hSw
          try dsimp only at hSw
          go_simp
          try with_reducible rfl
        try simp only [Act.put, List.setIfInBounds_toArray, List.set_cons_zero, List.set_cons_succ]
        refine wpAnyH_take (i := 4) (oi := { dst := some 20, op := _, type := _, pos := _, after := _, guard := _ }) (v := ?_) rfl (by kernel_rfl) (by kernel_rfl) (by kernel_rfl) (fun _ _ _ h => h) (Or.inl ⟨by rfl, ?_⟩) (by assumption) ?_
        rotate_left
        · intro w hSw
          try dsimp only at hSw
          go_simp
          try with_reducible rfl
        try simp only [Act.put, List.setIfInBounds_toArray, List.set_cons_zero, List.set_cons_succ]
        refine wpAnyH_take (i := 5) (oi := { dst := some 21, op := _, type := _, pos := _, after := _, guard := _ }) (v := ?_) rfl (by kernel_rfl) (by kernel_rfl) (by kernel_rfl) (fun _ _ _ h => h) (Or.inl ⟨by rfl, ?_⟩) (by assumption) ?_
        rotate_left
        · intro w hSw
          try dsimp only at hSw
          go_simp
          try with_reducible rfl
        try simp only [Act.put, List.setIfInBounds_toArray, List.set_cons_zero, List.set_cons_succ]
        refine wpAnyH_take (i := 6) (oi := { dst := some 22, op := _, type := _, pos := _, after := _, guard := _ }) (v := ?_) rfl (by kernel_rfl) (by kernel_rfl) (by kernel_rfl) (fun _ _ _ h => h) (Or.inl ⟨by rfl, ?_⟩) (by assumption) ?_
        rotate_left
        · intro w hSw
          try dsimp only at hSw
          go_simp
          try with_reducible rfl
        try simp only [Act.put, List.setIfInBounds_toArray, List.set_cons_zero, List.set_cons_succ]
        refine wpAnyH_take (i := 7) (oi := { dst := some 4, op := _, type := _, pos := _, after := _, guard := _ }) (v := ?_) rfl (by kernel_rfl) (by kernel_rfl) (by kernel_rfl) (fun _ _ _ h => h) (Or.inl ⟨by rfl, ?_⟩) (by assumption) ?_
        rotate_left
        · intro w hSw
          try dsimp only at hSw
          go_simp
          try with_reducible rfl
        try simp only [Act.put, List.setIfInBounds_toArray, List.set_cons_zero, List.set_cons_succ]
        refine wpAnyH_take (i := 8) (oi := { dst := some 6, op := _, type := _, pos := _, after := _, guard := _ }) (v := ?_) rfl (by kernel_rfl) (by kernel_rfl) (by kernel_rfl) (fun _ _ _ h => h) (Or.inl ⟨by rfl, ?_⟩) (by assumption) ?_
        rotate_left
        · intro w hSw
          try dsimp only at hSw
          go_simp
          try with_reducible rfl
        try simp only [Act.put, List.setIfInBounds_toArray, List.set_cons_zero, List.set_cons_succ]
        refine wpAnyH_done (by kernel_rfl) ?_ _
        go_wp2_with fail
        go_ret3
        exact ⟨T.take i, [], T.drop i, _, some ⟨b, off + i * 2, none⟩, cap - i, by rw [hBl, hAl]; rfl, HP.out, by rw [hBl]; exact HTB.out, by rw [hAl]; exact HTA.out, fun ad e => by cases e; exact ⟨b, off + i * 2, off, rfl, rfl⟩, HBd.out⟩
    · obtain rfl : cap = i := by omega
      obtain rfl : n = cap := by omega
      have hf : decide (n < n ∧ (trD T n).1 = lw) = false := by simp
      rw [hf]
      have HP := Lib.hid (parts_none (lw := lw) HA.out HFD.out (by omega))
      have HTN := Lib.hid (ts_none (bo := some ⟨b, off, none⟩) (c := 0) hT2d.out n (Nat.le_refl _) (by unfold maxLen; omega))
      have hAl : (T.drop n).length = 0 := by rw [List.length_drop]; omega
      go_wp2_with fail
      refine wp_region_held_drew (S := fun W => Hid (Below w.heap.size w W)) (by kernel_rfl) (HBd) (fun hS => ?_)
      refine wpAnyH_take (i := 0) (oi := { dst := some 16, op := _, type := _, pos := _, after := _, guard := _ }) (v := ?_) rfl (by kernel_rfl) (by kernel_rfl) (by kernel_rfl) (fun _ _ _ h => h) (Or.inl ⟨by rfl, ?_⟩) (by assumption) ?_
      rotate_left
      · intro w hSw
        try dsimp only at hSw
        go_simp
        try with_reducible rfl
      try simp only [Act.put, List.setIfInBounds_toArray, List.set_cons_zero, List.set_cons_succ]
      refine wpAnyH_take (i := 1) (oi := { dst := some 17, op := _, type := _, pos := _, after := _, guard := _ }) (v := ?_) rfl (by kernel_rfl) (by kernel_rfl) (by kernel_rfl) (fun _ _ _ h => h) (Or.inl ⟨by rfl, ?_⟩) (by assumption) ?_
      rotate_left
      · intro w hSw
        try dsimp only at hSw
        go_simp
        try with_reducible rfl
      try simp only [Act.put, List.setIfInBounds_toArray, List.set_cons_zero, List.set_cons_succ]
      refine wpAnyH_take (i := 2) (oi := { dst := some 18, op := _, type := _, pos := _, after := _, guard := _ }) (v := ?_) rfl (by kernel_rfl) (by kernel_rfl) (by kernel_rfl) (fun _ _ _ h => h) (Or.inl ⟨by rfl, ?_⟩) (by assumption) ?_
      rotate_left
      · intro w hSw
        try dsimp only at hSw
        go_simp
        try with_reducible rfl
      try simp only [Act.put, List.setIfInBounds_toArray, List.set_cons_zero, List.set_cons_succ]
      refine wpAnyH_take (i := 3) (oi := { dst := some 19, op := _, type := _, pos := _, after := _, guard := _ }) (v := ?_) rfl (by kernel_rfl) (by kernel_rfl) (by kernel_rfl) (fun _ _ _ h => h) (Or.inl ⟨by rfl, ?_⟩) (by assumption) ?_
      rotate_left
      · intro w hSw
        try dsimp only at hSw
        go_simp
        try with_reducible rfl
      try simp only [Act.put, List.setIfInBounds_toArray, List.set_cons_zero, List.set_cons_succ]
      refine wpAnyH_take (i := 4) (oi := { dst := some 20, op := _, type := _, pos := _, after := _, guard := _ }) (v := ?_) rfl (by kernel_rfl) (by kernel_rfl) (by kernel_rfl) (fun _ _ _ h => h) (Or.inl ⟨by rfl, ?_⟩) (by assumption) ?_
      rotate_left
      · intro w hSw
        try dsimp only at hSw
        go_simp
        try with_reducible rfl
      try simp only [Act.put, List.setIfInBounds_toArray, List.set_cons_zero, List.set_cons_succ]
      refine wpAnyH_take (i := 5) (oi := { dst := some 21, op := _, type := _, pos := _, after := _, guard := _ }) (v := ?_) rfl (by kernel_rfl) (by kernel_rfl) (by kernel_rfl) (fun _ _ _ h => h) (Or.inl ⟨by rfl, ?_⟩) (by assumption) ?_
      rotate_left
      · intro w hSw
        try dsimp only at hSw
        go_simp
        try with_reducible rfl
      try simp only [Act.put, List.setIfInBounds_toArray, List.set_cons_zero, List.set_cons_succ]
      refine wpAnyH_take (i := 6) (oi := { dst := some 22, op := _, type := _, pos := _, after := _, guard := _ }) (v := ?_) rfl (by kernel_rfl) (by kernel_rfl) (by kernel_rfl) (fun _ _ _ h => h) (Or.inl ⟨by rfl, ?_⟩) (by assumption) ?_
      rotate_left
      · intro w hSw
        try dsimp only at hSw
        go_simp
        try with_reducible rfl
      try simp only [Act.put, List.setIfInBounds_toArray, List.set_cons_zero, List.set_cons_succ]
      refine wpAnyH_take (i := 7) (oi := { dst := some 4, op := _, type := _, pos := _, after := _, guard := _ }) (v := ?_) rfl (by kernel_rfl) (by kernel_rfl) (by kernel_rfl) (fun _ _ _ h => h) (Or.inl ⟨by rfl, ?_⟩) (by assumption) ?_
      rotate_left
      · intro w hSw
        try dsimp only at hSw
        go_simp
        try with_reducible rfl
      try simp only [Act.put, List.setIfInBounds_toArray, List.set_cons_zero, List.set_cons_succ]
      refine wpAnyH_take (i := 8) (oi := { dst := some 6, op := _, type := _, pos := _, after := _, guard := _ }) (v := ?_) rfl (by kernel_rfl) (by kernel_rfl) (by kernel_rfl) (fun _ _ _ h => h) (Or.inl ⟨by rfl, ?_⟩) (by assumption) ?_
      rotate_left
      · intro w hSw
        try dsimp only at hSw
        go_simp
        try with_reducible rfl
      try simp only [Act.put, List.setIfInBounds_toArray, List.set_cons_zero, List.set_cons_succ]
      refine wpAnyH_done (by kernel_rfl) ?_ _
      go_wp2_with fail
      go_ret3
      exact ⟨T.take n, [], T.drop n, _, some ⟨b, off, none⟩, 0, by rw [hBl, hAl]; rfl, HP.out, by rw [hBl]; exact HTB.out, by rw [hAl]; exact HTN.out, fun ad e => by cases e; exact ⟨b, off, off, rfl, rfl⟩, HBd.out⟩
end Go.Proofs.YtmmdaegdkikkpaaGreatDoor
end

section
/-
  Contracts of attrs.Get, Has, Names, joined and limited. Condition: as Sorted's.
-/
set_option maxRecDepth 100000
namespace Go.Proofs.YtmmdaegdkikkpaaGreatDoor
open Go.RowKit Go.PlainAid
theorem parts_vals {l : List At} {T B M A : List Tr} {lw : ByteArray} {hv : Value} (hT : tats T = nf l) (h : Parts T lw B M A hv) {w : World} (hO : TOk w T) : Hdr w hv (vals l lw) := by
  rcases h.mid with ⟨hM, rfl⟩ | ⟨vs, hM⟩
  · have e : vals l lw = [] := by
      refine Classical.not_not.1 fun e => ?_
      have := nf_mem.2 ⟨(rfl : ((lw, vals l lw) : At).2 = vals l (lw, vals l lw).1), e⟩
      rw [← hT] at this
      obtain ⟨t, ht, e2⟩ := List.mem_map.1 this
      have e3 : t.1 = lw := congrArg Prod.fst e2
      rw [h.all, hM, List.append_nil] at ht
      rcases List.mem_append.1 ht with k | k
      · exact cs_ne (h.lo t k) e3
      · exact cs_ne (h.hi t k) e3.symm
    rw [e]; exact hdr_nil w
  · have hm : (lw, hv, vs) ∈ T := by rw [h.all, hM]; simp
    have h2 : (lw, vs) ∈ nf l := by rw [← hT]; exact List.mem_map.2 ⟨_, hm, rfl⟩
    have e := (nf_mem.1 h2).1
    have e' : vs = vals l lw := e
    rw [← e']
    exact hO _ hm
theorem nf_names_asc {l : List At} {T : List Tr} (hT : tats T = nf l) : Asc ((tats T).map (·.1)) := by rw [hT]; exact (nf_NF l).asc
set_option maxRecDepth 100000 in
set_option maxHeartbeats 4000000 in
theorem get_s (ao : Option Addr) (n cap : Nat) (l : List At) (name : ByteArray) (w : World) (h : AttrsAt w ao n cap l) (hF : Few l) (hns : name.size ≤ 1000000) :
    Calls Tryz.prog 175 #[.slice ao n cap, .string name] w fun e w' => ∃ v, e = .returned v ∧ Hdr w' v (vals l (lowS name)) ∧ Below w.heap.size w w' := by
  have HR := Lib.hid (sorted_s ao n cap l w h hF)
  have hlen := Nat.le_trans (nf_len l) hF.len
  go_enter Tryz.func175, Tryz.ntmps175
  go_wp2_with fail
  refine HR.out.mono ?_
  rintro e w1 ⟨v, T, rfl, hT, hTO, _, hown, hb⟩
  obtain ⟨hTl, xo, xc, rfl, hat, _, hz, hp⟩ := ts_owns hown
  have HRD := Lib.hid (around_s xo T.length xc T name w1 hat (nf_names_asc hT) (by rw [← tats_len, hT]; exact hlen) hz hp hns)
  have HTO := Lib.hid hTO.ok
  have HB := Lib.hid hb
  have HT := Lib.hid hT
  clear HR h hF hat hTO hb hown hT hlen hz hp hTl
  go_wp2_with fail
  refine HRD.out.mono ?_
  rintro e w2 ⟨B, M, A, hv, bo, c, rfl, hP, _, _, _, hb⟩
  have hH := (parts_vals HT.out hP HTO.out).below hb
  go_wp2_with fail
  go_ret
  exact ⟨_, rfl, hH, HB.out.trans (hb.mono HB.out.size)⟩
set_option maxRecDepth 100000 in
set_option maxHeartbeats 4000000 in
theorem names_s (ao : Option Addr) (n cap : Nat) (l : List At) (w : World) (h : AttrsAt w ao n cap l) (hF : Few l) :
    Calls Tryz.prog 174 #[.slice ao n cap] w fun e w' => ∃ v, e = .returned v ∧ Hdr w' v (names l) ∧ Below w.heap.size w w' := by
  have HR := Lib.hid (sorted_s ao n cap l w h hF)
  have hlen := Nat.le_trans (nf_len l) hF.len
  go_enter Tryz.func174, Tryz.ntmps174
  go_wp2_with fail
  refine HR.out.mono ?_
  rintro e w1 ⟨v, T, rfl, hT, hTO, _, hown, hb⟩
  obtain ⟨_, xo, xc, rfl, hat, _⟩ := ts_owns hown
  have HTA := Lib.hid hat
  have HTK := Lib.hid hTO.ok
  have HB := Lib.hid hb
  have HT := Lib.hid hT
  have hTl : T.length ≤ 1000 := by rw [← tats_len, hT]; exact hlen
  have hxc : xc ≤ 9223372036854775807 := hat.2.2.1
  have HNL := Lib.hid (names_tlen hT)
  clear HR h hF hat hTO hb hown hT hlen
  obtain ⟨ns, hns⟩ : ∃ x, names l = x := ⟨_, rfl⟩
  have HNS := Lib.hid hns
  rw [hns] at HNL
  clear hns
  go_wp2_with fail
  go_loopw [3, 5, 9] (fun s3 s5 i wr => ∃ q : Nat, q ≤ T.length ∧ i = .int .i64 q ∧ wr.ownsRow w1.heap.size 9 1 s3 (ns.take q).length (scells (ns.take q)) ∧ Hid (Below w1.heap.size w1 wr)) (fun _ _ i _ => T.length - (intOf i).toNat)
  case atStart => exact ⟨0, Nat.zero_le _, rfl, World.ownsRow_nil _ _ _ _, Lib.hid (Below.refl _ _)⟩
  case round =>
    obtain ⟨q, hq, rfl, hown, HB2⟩ := hrel
    by_cases hlt : q < T.length
    · obtain ⟨b, off, rfl, hblt, _⟩ := HTA.out.2.2.2 (by omega)
      obtain ⟨a0, a1⟩ := ts_at HTA.out q hlt
      have a0 := cell_later HB2.out a0
      have a1 := cell_later HB2.out a1
      have HPN := Lib.hid (names_part HT.out q hlt)
      have hhd := HTK.out _ (tr_mem T q hlt)
      obtain ⟨x, hx⟩ : ∃ x, trD T q = x := ⟨_, rfl⟩
      rw [hx] at a0 a1 HPN hhd
      clear hx
      obtain ⟨p, hd, vs⟩ := x
      simp only [] at a0 a1 HPN hhd
      obtain ⟨ho, hnn, hcc, rfl, _⟩ := hhd
      rw [HNS.out] at HPN
      have HTS := Lib.hid (show ns.take (q + 1) = ns.take q ++ [p] by rw [HPN.out]; exact take_snoc ns q (by have := HNL.out; omega))
      have hql : (ns.take q).length ≤ 1000 := by rw [List.length_take]; omega
      have d1 : (q : Int) < (T.length : Int) := by omega
      have hsz := HB2.out.size
      have X1 := (abox_new wr p (.slice ho hnn hcc)).cells
      obtain ⟨x0, x1⟩ := X1
      have hown1 := hown.alloc (.cells #[.string p, .slice ho hnn hcc] 58)
      have hba : Below w1.heap.size w1 (wr.alloc (.cells #[.string p, .slice ho hnn hcc] 58)) := HB2.out.alloc hsz _
      have hszA := hba.size
      go_wp2_with (at_builtin; go_must (refine push_str (wr.alloc (.cells #[.string p, .slice ho hnn hcc] 58)) hown1 (.tmp 13) (.tmp 16) p ?_ ?_ ?_ ?_ ?_ ?_ ?_; exact rfl; exact rfl; exact rfl; (rw [World.size_alloc]; exact rfl); omega; exact hszA; intro v3 w3 hown3 hb3))
      go_roundw
      case rel => exact ⟨q + 1, by omega, by go_num, by rw [HTS.out, scells_snoc, List.length_append]; exact hown3, Lib.hid (hba.trans hb3)⟩
      case measure => simp [intOf]; omega
    · obtain rfl : T.length = q := by omega
      have HE := Lib.hid (show ns.take T.length = ns from List.take_of_length_le (by rw [HNL.out]; exact Nat.le_refl _))
      go_wp2_with fail
      go_ret
      rw [HE.out] at hown
      exact ⟨_, rfl, by rw [HNS.out]; exact hdr_owns hown, HB.out.trans (HB2.out.mono HB.out.size)⟩
end Go.Proofs.YtmmdaegdkikkpaaGreatDoor
end

section
/-
  Contracts of attrs.joined and limited. Condition: at most 1000 attributes and 100000 values.
-/
set_option maxRecDepth 100000
namespace Go.Proofs.YtmmdaegdkikkpaaGreatDoor
open Go.RowKit Go.PlainAid
/-- the rest of a list beside the values' slice v: its rows and the slices of its values lie apart from v's -/
structure Beside (w : World) (base : Nat) (v : Value) (ao : Option Addr) (T : List Tr) : Prop where
  own : ∀ t ∈ T, w.ownsRow base 9 1 t.2.1 t.2.2.length (scells t.2.2) ∧ (t.2.1.ownBlock = none ∨ t.2.1.ownBlock ≠ v.ownBlock)
  row : ∀ b off, ao = some ⟨b, off, none⟩ → v.ownBlock ≠ some b
  lt : ∀ b off, ao = some ⟨b, off, none⟩ → b < w.heap.size
theorem Beside.below {w w' : World} {base : Nat} {v : Value} {ao : Option Addr} {T : List Tr} (h : Beside w base v ao T) (hb : Below w.heap.size w w') : Beside w' base v ao T := ⟨fun t ht => ⟨own_below (h.own t ht).1 hb, (h.own t ht).2⟩, h.row, fun b off e => Nat.lt_of_lt_of_le (h.lt b off e) hb.size⟩
theorem Beside.ok {w w' : World} {base : Nat} {v : Value} {ao : Option Addr} {T : List Tr} (h : Beside w base v ao T) (hg : w.grownBy w' v.ownBlock) : TOk w' T := fun t ht => hdr_owns ((h.own t ht).1.kept hg (h.own t ht).2)
theorem Beside.ts {w w' : World} {base n cap : Nat} {v : Value} {ao : Option Addr} {T : List Tr} (h : Beside w base v ao T) (hT : TsAt w ao n cap T) (hg : w.grownBy w' v.ownBlock) : TsAt w' ao n cap T :=
  hT.keep hg.size fun b off e hb => hg.block b hb fun k => h.row b off e k.symm
end Go.Proofs.YtmmdaegdkikkpaaGreatDoor
end

section
/-
  Contracts of attrs.Add and Replace. Condition: as the specification's.
-/
set_option maxRecDepth 100000
namespace Go.Proofs.YtmmdaegdkikkpaaGreatDoor
open Go.RowKit Go.PlainAid
theorem Beside.grown {w w' : World} {base : Nat} {v v' : Value} {ao : Option Addr} {T : List Tr} (h : Beside w base v ao T) (hg : w.grownBy w' v.ownBlock) (hl : v'.ownBlock = v.ownBlock ∨ v'.ownBlock = some w.heap.size) : Beside w' base v' ao T := by
  refine ⟨TOwn.grown (v := v) h.own hg hl, fun b off e k => ?_, fun b off e => Nat.lt_of_lt_of_le (h.lt b off e) hg.size⟩
  rcases hl with j | j
  · exact h.row b off e (by rw [← j, k])
  · rw [k] at j
    cases j
    exact Nat.lt_irrefl _ (h.lt _ off e)
theorem Beside.fresh {w w' : World} {base : Nat} {v v' : Value} {ao : Option Addr} {T : List Tr} (h : Beside w base v ao T) (hb : Below w.heap.size w w') (hv : ∀ g, v'.ownBlock = some g → w.heap.size ≤ g) : Beside w' base v' ao T := by
  refine ⟨fun t ht => ⟨own_below (h.own t ht).1 hb, ?_⟩, fun b off e k => ?_, fun b off e => Nat.lt_of_lt_of_le (h.lt b off e) hb.size⟩
  · exact not_block (Bk := w.heap.size) (fun g e => ((h.own t ht).1.lt g e).2) hv
  · have := hv b k
    have := h.lt b off e
    omega
end Go.Proofs.YtmmdaegdkikkpaaGreatDoor
end

section
/-
  A map from strings to bools that the call has made, with deletions; slices.DeleteFunc at strings with the closure of attrs.Remove. Condition: strings of at most 1000000 bytes.
-/
set_option maxRecDepth 100000
namespace Go.Proofs.YtmmdaegdkikkpaaGreatDoor
open Go.RowKit Go.PlainAid Go.Maps Go.ChangeMaps Go.Sort
/-- a map that reads as f -/
structure BMap (w : World) (b n : Nat) (D : DataW Unit) (f : ByteArray → Bool) : Prop where
  map : w.ownsMap Tryz.prog 9 (plainElem Tryz.prog 4) b n D
  reads : ∀ k : ByteArray, D.atKey (klit k) (.lit (.bool false)) = .lit (.bool (f k))
theorem BMap.of {w : World} {b n : Nat} {D : DataW Unit} {ks : List ByteArray} (h : SetM w b n D ks) : BMap w b n D (memB ks) := ⟨h.map, h.reads⟩
theorem BMap.look {w : World} {b n : Nat} {D : DataW Unit} {f : ByteArray → Bool} (G : BMap w b n D f) (k : ByteArray) (hk : k.size ≤ maxLen) :
    (Instr.lookup 150 (.map (some b)) (.string k) false).run Tryz.prog w = .ok (.bool (f k)) w := by
  obtain ⟨v, ps, hrun, hv⟩ := G.map.lookup (t := 150) (e := 4) (string_keyed Tryz.underlying9) Tryz.underlying150 (z := .bool false) (Tryz.zeroValue4 _) (plainElem_bool Tryz.underlying4 false) (klit_key k hk)
  rw [G.reads k] at hv
  have hv' : v = .bool (f k) := plain_bool Tryz.underlying4 hv
  rw [hrun, hv']
theorem BMap.kept {w w' : World} {b n : Nat} {D : DataW Unit} {f : ByteArray → Bool} {row : Option Nat} (G : BMap w b n D f) (hg : w.grownBy w' row) (hne : some b ≠ row) : BMap w' b n D f := ⟨G.map.kept hg hne, G.reads⟩
theorem BMap.below {w w' : World} {b n : Nat} {D : DataW Unit} {f : ByteArray → Bool} (G : BMap w b n D f) (hb : Below w.heap.size w w') : BMap w' b n D f :=
  G.kept (row := none) ⟨hb.os, hb.tape, hb.output, hb.size, fun k hk _ => hb.block k hk⟩ (by simp)
theorem BMap.drop {w : World} {b n : Nat} {D : DataW Unit} {f : ByteArray → Bool} (G : BMap w b n D f) (k : ByteArray) (hk : k.size ≤ maxLen) (ty : TypeId) :
    ∃ w', (Builtin.delete_ #[150, 9] ty #[.map (some b), .string k]).run Tryz.prog w = .ok (.tuple #[]) w' ∧ BMap w' b n (D.del (klit k)) (fun j => f j && !decide (k = j)) ∧ w.grownBy w' (some b) := by
  obtain ⟨w', hrun, hm, ht⟩ := G.map.drop (t := 150) (e := 4) (string_keyed Tryz.underlying9) Tryz.underlying150 (klit_key k hk) ty
  refine ⟨w', hrun, ⟨hm, fun j => ?_⟩, ht.grown⟩
  by_cases e : k = j
  · subst e
    rw [atKey_del_same]; simp
  · rw [atKey_del_other (fun h => e (klit_one h).symm), G.reads j]
    simp [e]
abbrev Sm := { s : ByteArray // s.size ≤ maxLen }
instance : Inhabited Sm := ⟨⟨⟨#[]⟩, by show 0 ≤ maxLen; unfold maxLen; omega⟩⟩
end Go.Proofs.YtmmdaegdkikkpaaGreatDoor
end

section
/-
  Contract of attrs.Remove. Condition: as the specification's.
-/
set_option maxRecDepth 100000
namespace Go.Proofs.YtmmdaegdkikkpaaGreatDoor
open Go.RowKit Go.PlainAid Go.Maps Go.ChangeMaps
theorem Beside.later {w w' : World} {base f : Nat} {v : Value} {ao : Option Addr} {T : List Tr} (h : Beside w base v ao T) (hb : Below f w w') (hf : w.heap.size ≤ f) : Beside w' base v ao T := h.below (hb.mono hf)
end Go.Proofs.YtmmdaegdkikkpaaGreatDoor
end

section
/-
  Contracts of slices.EqualFunc at attributes and of attrs.Equal. Condition: as Sorted's.
-/
set_option maxRecDepth 100000
namespace Go.Proofs.YtmmdaegdkikkpaaGreatDoor
open Go.RowKit Go.PlainAid
end Go.Proofs.YtmmdaegdkikkpaaGreatDoor
end

section
/-
  Arguments of the laws, opened with the form's own reach; contracts of the laws' guards short and few. No condition.
-/
set_option maxRecDepth 100000
namespace Go.Proofs.YtmmdaegdkikkpaaGreatDoor
open Go.ChangeShapes Go.WideShapes Go.ChangeAt Go.RowKit Go.PlainAid
/-- how many bytes there are in strings, in attributes -/
def sumS (l : List ByteArray) : Nat := (l.map ByteArray.size).sum
def sumB (l : List At) : Nat := (l.map fun a => a.1.size + sumS a.2).sum
theorem sumS_mem {v : ByteArray} : ∀ {l : List ByteArray}, v ∈ l → v.size ≤ sumS l
  | x :: l, h => by
    unfold sumS
    rw [List.map_cons, List.sum_cons]
    rcases List.mem_cons.1 h with k | k
    · rw [k]; omega
    · have := sumS_mem k; unfold sumS at this; omega
theorem sumB_mem {a : At} : ∀ {l : List At}, a ∈ l → a.1.size + sumS a.2 ≤ sumB l
  | x :: l, h => by
    unfold sumB
    rw [List.map_cons, List.sum_cons]
    rcases List.mem_cons.1 h with k | k
    · rw [k]; omega
    · have := sumB_mem k; unfold sumB at this; omega
structure Good (l : List At) : Prop where
  len : l.length ≤ 40
  vals : sumV l ≤ 300
  bytes : sumB l ≤ 6000
structure GoodS (l : List ByteArray) : Prop where
  len : l.length ≤ 20
  bytes : sumS l ≤ 3000
theorem Good.small {l : List At} (h : Good l) : SmallA l := fun a ha => by
  have h1 := sumB_mem ha
  have h2 := h.bytes
  exact ⟨by omega, fun v hv => by have := sumS_mem hv; omega⟩
theorem Good.few {l : List At} (h : Good l) : Few l := ⟨h.small, by have := h.vals; omega, by have := h.len; omega⟩
theorem GoodS.small {l : List ByteArray} (h : GoodS l) : SmallS l := fun v hv => by have := sumS_mem hv; have := h.bytes; omega
/-- what a guard answers: true only where G holds -/
structure Guards (G : Prop) (w : World) (e : Ending) (w' : World) : Prop where
  ans : ∃ b : Bool, e = .returned (.bool b) ∧ (b = true → G) ∧ w' = w
theorem guard_no {G : Prop} {w : World} : Guards G w (.returned (.bool false)) w := ⟨⟨false, rfl, (fun e => by cases e), rfl⟩⟩
theorem guard_yes {G : Prop} {w : World} (h : G) : Guards G w (.returned (.bool true)) w := ⟨⟨true, rfl, fun _ => h, rfl⟩⟩
end Go.Proofs.YtmmdaegdkikkpaaGreatDoor
end

section
/-
  Plain functions for the escaped forms: which bytes stand as they are, hexadecimal digits, the escaped form and reading it back. No condition.
-/
set_option maxRecDepth 100000
namespace Go.Proofs.YtmmdaegdkikkpaaGreatDoor
open Go.PlainAid
/-- byte k of a string -/
def chr (s : ByteArray) (k : Nat) : UInt8 := s.data.toList.getD k 0
theorem bt_chr (s : ByteArray) (k : Nat) : bt s k = ((chr s k).toNat : Int) := by
  unfold chr
  by_cases h : k < s.size
  · rw [bt_at s k h, List.getD_eq_getElem?_getD, List.getElem?_eq_getElem (by simpa using h)]; rfl
  · rw [bt_end s (by omega), List.getD_eq_getElem?_getD, List.getElem?_eq_none (by rw [← Lib.size_eq]; omega)]; rfl
theorem take_chr (s : ByteArray) (k : Nat) (h : k < s.size) : s.data.toList.take (k + 1) = s.data.toList.take k ++ [chr s k] := by
  rw [take_succ s k h]; unfold chr; rw [List.getD_eq_getElem?_getD, List.getElem?_eq_getElem (by simpa using h)]; rfl
end Go.Proofs.YtmmdaegdkikkpaaGreatDoor
end

section
/-
  Plain functions for reading escaped forms. No condition.
-/
set_option maxRecDepth 100000
namespace Go.Proofs.YtmmdaegdkikkpaaGreatDoor
open Go.PlainAid
theorem drop_chr (s : ByteArray) (i : Nat) (h : i < s.size) : s.data.toList.drop i = chr s i :: s.data.toList.drop (i + 1) := by
  unfold chr
  rw [List.getD_eq_getElem?_getD, List.getElem?_eq_getElem (by simpa using h)]
  exact List.drop_eq_getElem_cons (by simpa using h)
end Go.Proofs.YtmmdaegdkikkpaaGreatDoor
end

section
/-
  The shelf of this seat lies in one text. No condition.
-/
set_option maxRecDepth 100000
namespace Go.Proofs.YtmmdaegdkikkpaaGreatDoor
end Go.Proofs.YtmmdaegdkikkpaaGreatDoor
end

section
/-
  Contracts of strings.Builder as this program's translation has it: copyCheck, WriteByte, WriteString, String, at a builder that the call itself made. Condition: at most 2^47 bytes.
-/
set_option maxRecDepth 100000
namespace Go.Proofs.YtmmdaegdkikkpaaGreatDoor
open Go.RowKit Go.PlainAid
theorem bsize : (Tryz.prog.info? 79).map (·.size) = some 2 := by kernel_rfl
theorem blies : liesAt Tryz.prog Tryz.prog.depth 79 (2 / Tryz.prog.cellsOf 79) 0 79 1 = true := by kernel_rfl
set_option maxHeartbeats 1000000 in
set_option maxRecDepth 100000 in
/-- a builder that was written before -/
theorem check_used (b : Nat) (w : World) (h0 : w.cell? ⟨b, 0, none⟩ = some (.pointer (some ⟨b, 0, none⟩))) :
    Calls Tryz.prog 115 #[.pointer (some ⟨b, 0, none⟩)] w fun e w' => e = .returned (.tuple #[]) ∧ w' = w := by
  obtain ⟨j, hj, _⟩ := Option.map_eq_some_iff.1 bsize
  go_enter Tryz.func115, Tryz.ntmps115
  go_wp2
  rw [Lib.run_neq_ptr_same w _ Tryz.underlying76 hj]
  go_wp2
  go_end0
  exact ⟨rfl, rfl⟩
set_option maxHeartbeats 1000000 in
set_option maxRecDepth 100000 in
/-- a fresh one: it notes its own address -/
theorem check_fresh (b : Nat) (w : World) (h0 : w.cell? ⟨b, 0, none⟩ = some (.pointer none)) (hsh : w.shape? b = some (79, 2)) (hfz : w.frozen? ⟨b, 0, none⟩ = false) :
    Calls Tryz.prog 115 #[.pointer (some ⟨b, 0, none⟩)] w fun e w' => e = .returned (.tuple #[]) ∧ w' = w.setCell ⟨b, 0, none⟩ (.pointer (some ⟨b, 0, none⟩)) := by
  obtain ⟨j, hj, hjs⟩ := Option.map_eq_some_iff.1 bsize
  go_enter Tryz.func115, Tryz.ntmps115
  go_wp2
  rw [Lib.run_to_unsafe w ⟨b, 0, none⟩ Tryz.underlying76 Tryz.underlying180 hj (by rw [hjs]; decide) hsh (Nat.zero_lt_succ 1)]
  simp only [Result.andThen]
  rw [Oper.upon_value]
  go_wp2
  rw [run_callFunc_extern Tryz.func180 (by kernel_rfl) (by kernel_rfl) (by kernel_rfl) (e := Extern.AbiNoEscape.same) (by kernel_rfl)]
  rw [Lib.run_noEscape]
  simp only [Result.andThen]
  rw [Oper.upon_value]
  go_wp2
  rw [Lib.run_from_unsafe w ⟨b, 0, none⟩ Tryz.underlying180 Tryz.underlying76 hj hsh blies]
  simp only [Result.andThen]
  rw [Oper.upon_value]
  go_wp2
  go_end0
  exact ⟨rfl, rfl⟩
/-- a builder of the call's own that holds the bytes l -/
def Bld (B b : Nat) (l : List UInt8) (w : World) : Prop := Lib.IsBuilder 79 5 B b (bcells l) w
theorem check_any (B b : Nat) (bs : List Value) (w : World) (h : Lib.IsBuilder 79 5 B b bs w) :
    Calls Tryz.prog 115 #[.pointer (some ⟨b, 0, none⟩)] w fun e w' => e = .returned (.tuple #[]) ∧ (Lib.BuilderAt 79 5 B b (.pointer (some ⟨b, 0, none⟩)) bs w' ∧ Below B w w') := by
  rcases h with h | h
  · refine (check_fresh b w h.cell0 h.shape h.frozen0).mono ?_
    rintro e w' ⟨rfl, rfl⟩
    exact ⟨rfl, h.used _, (Below.refl B w).setCell (p := ⟨b, 0, none⟩) h.1 _⟩
  · refine (check_used b w h.cell0).mono ?_
    rintro e w' ⟨rfl, rfl⟩
    exact ⟨rfl, h, Below.refl B _⟩
/-- 'b = append(b, c)' as push_byte, telling what has grown -/
theorem push_byte_g {ops : Array Oper} {rest : List Oper} {o : Oper} {a : Act} {Q : Exit → Act → World → Prop} (wr : World) {base : Nat} {v : Value} {n : Nat} {xs : List Value} (hown : wr.ownsRow base 5 1 v n xs) (s x : Operand)
    (c : Int) (hgd : o.guard = none)
    (ho : o.op = .call { callee := .builtin .append, args := #[s, x], argTypes := #[77, 77] })
    (hs : a.eval s = v) (hx : a.eval x = .slice (some ⟨wr.heap.size, 0, none⟩) 1 1) (hn : n + 1 ≤ 140737488355328) (hbase : base ≤ wr.heap.size)
    (h : ∀ v' w', w'.ownsRow base 5 1 v' (n + 1) (xs ++ [.int .u8 c]) → (wr.alloc (.cells #[.int .u8 c] 5)).grownBy w' v.ownBlock → wpList Tryz.prog ops Q rest (a.put o.dst v') w') :
    wpList Tryz.prog ops Q (o :: rest) a (wr.alloc (.cells #[.int .u8 c] 5)) := by
  obtain ⟨i0, hi, hz0, hz1, hz2⟩ := info_parts info5
  refine wpList_append_own _ hgd s x 77 ho base 5 i0 (.int .u8 0) 1 1 Tryz.underlying77 hi hz0 hz1 hz2 rfl (by decide) v n xs hs (hown.alloc _) ⟨wr.heap.size, 0, none⟩ 1 1 [.int .u8 c] hx rfl
    (cell_one_new _ _ _) (by intro u hu; simp at hu; subst hu; rfl) (by unfold maxLen; omega) (by omega) (by simp; omega) ?_
  intro v' w' h1 h2 _
  exact h v' w' h1 h2
set_option maxHeartbeats 2000000 in
set_option maxRecDepth 100000 in
theorem writeByte_cells (B b : Nat) (bs : List Value) (c : Int) (w : World) (h : Lib.IsBuilder 79 5 B b bs w) (hlen : bs.length + 1 ≤ 140737488355328) (hBw : B ≤ w.heap.size) :
    Calls Tryz.prog 199 #[.pointer (some ⟨b, 0, none⟩), .int .u8 c] w fun e w' => e = .returned .nilIface ∧ (Lib.BuilderAt 79 5 B b (.pointer (some ⟨b, 0, none⟩)) (bs ++ [.int .u8 c]) w' ∧ Below B w w') := by
  go_enter Tryz.func199, Tryz.ntmps199
  go_wp2_with (go_at_call 115; refine (check_any B b bs _ h).mono ?_)
  rintro e w1 ⟨rfl, h1, hb1⟩
  obtain ⟨hB, v, hbk, hown, hne⟩ := h1
  have c1 : w1.cell? ⟨b, 1, none⟩ = some v := by rw [Lib.cell_of_heap hbk]; rfl
  have HZ := hb1.size
  go_wp2_with (at_builtin; refine push_byte_g w1 hown (.tmp 11) (.tmp 13) _ ?_ ?_ ?_ ?_ ?_ ?_ ?_; exact rfl; exact rfl; exact rfl; exact rfl; omega; omega)
  intro v' w2 hown' hgrow
  have hlt : b < w1.heap.size := by
    rcases Nat.lt_or_ge b w1.heap.size with h' | h'
    · exact h'
    · simp [Array.getElem?_eq_none h'] at hbk
  have hb2 : w2.heap[b]? = some (.cells #[.pointer (some ⟨b, 0, none⟩), v] 79 (0, 0)) := by
    rw [hgrow.block b (by simp; omega) (fun e => hne e.symm), Lib.alloc_old w1 _ b hlt]
    exact hbk
  have d1 : w2.cell? ⟨b, 1, none⟩ = some v := by rw [Lib.cell_of_heap hb2]; rfl
  have f1 : w2.frozen? ⟨b, 1, none⟩ = false := Lib.frozen_of_heap hb2 1
  obtain ⟨g, cap, rfl⟩ : ∃ g cap, v' = .slice (some ⟨g, 0, none⟩) (bs.length + 1) cap := by
    rcases hown'.2 with ⟨_, h0⟩ | ⟨g, cap, cur, hv, _⟩
    · omega
    · exact ⟨g, cap, hv⟩
  go_wp2
  go_ret
  refine ⟨rfl, ?_, ?_⟩
  · exact Lib.BuilderAt.put (T := 79) (e := 5) hB hb2 (bs' := bs ++ [.int .u8 c]) (by simpa using hown') (by decide)
  · exact ((hb1.alloc (by omega) _).grown hgrow (by simp; omega) (fun k hk => (hown.lt k hk).1)).setCell (p := ⟨b, 1, none⟩) hB _
/-- WriteByte at a builder that holds the bytes l -/
theorem writeByte_s (B b : Nat) (l : List UInt8) (c : UInt8) (x : Int) (w : World) (h : Bld B b l w) (hx : x = (c.toNat : Int)) (hlen : l.length ≤ 100000000000) (hBw : B ≤ w.heap.size) :
    Calls Tryz.prog 199 #[.pointer (some ⟨b, 0, none⟩), .int .u8 x] w fun e w' => e = .returned .nilIface ∧ Bld B b (l ++ [c]) w' ∧ Below B w w' := by
  subst hx
  refine (writeByte_cells B b (bcells l) c.toNat w h (by rw [bcells_length]; omega) hBw).mono fun e w' h => ⟨h.1, ?_, h.2.2⟩
  unfold Bld
  rw [bcells_append]
  exact .inr h.2.1
/-- String at a builder that holds the bytes l -/
theorem string_s (B b : Nat) (l : List UInt8) (w : World) (h : Bld B b l w) (hBw : B ≤ w.heap.size) :
    Calls Tryz.prog 59 #[.pointer (some ⟨b, 0, none⟩)] w fun e w' => e = .returned (.string ⟨l.toArray⟩) ∧ Below B w w' :=
  (Tryz.Builder_String_any B b l w h hBw).mono fun e w' h => ⟨h.1, h.2⟩
/-- a fresh builder -/
theorem bld_new (w : World) : Bld w.heap.size w.heap.size [] (w.alloc (.cells #[.pointer none, .slice none 0 0] 79)) := Lib.fresh_isBuilder _ _ w
theorem Bld.below {B b : Nat} {l : List UInt8} {w w' : World} (h : Bld B b l w) (hb : Below w.heap.size w w') : Bld B b l w' := by
  have one : ∀ p, Lib.BuilderAt 79 5 B b p (bcells l) w → Lib.BuilderAt 79 5 B b p (bcells l) w' := fun p h => by
    have hl := h.lt
    obtain ⟨hB, v, hbk, hown, hne⟩ := h
    refine ⟨hB, v, by rw [hb.block b hl]; exact hbk, ?_, hne⟩
    exact hown.kept (row := none) ⟨hb.os, hb.tape, hb.output, hb.size, fun k hk _ => hb.block k hk⟩ (by
      cases h : v.ownBlock
      · exact .inl rfl
      · exact .inr (by simp))
  rcases h with h | h
  · exact .inl (one _ h)
  · exact .inr (one _ h)
end Go.Proofs.YtmmdaegdkikkpaaGreatDoor
end
