/-
  Texts of the schema layer and of those beneath it, joined: AttP2, AttP3, AttP4, CodecA, CodecB, ShelfB. Conditions stand at each contract.
-/
import Derived.OwnWalk
import Derived.Shelf.SlicesG.Turned
import Derived.Lib.TrimByte
import Derived.Lib.Bytealg
import Derived.Test.YtclfjdnemafmeaaGreatDoorM01
import Derived.Test.YtclfjdnemafmeaaGreatDoorM04
import Derived.Test.YtclfjdnemafmeaaGreatDoorM07

section
/-
  Contracts of slices.BinarySearchFunc at attributes and of attrs.around. Condition: at most 1000 attributes whose names ascend.
-/
set_option maxRecDepth 100000
set_option linter.unusedVariables false
set_option linter.unusedSimpArgs false
set_option linter.unnecessarySimpa false
namespace Go.Proofs.YtclfjdnemafmeaaGreatDoor
open Go.RowKit Go.PlainAid

theorem cmp_s (a b : ByteArray) (w : World) : Calls Tryz.prog 97 #[.string a, .string b] w fun e w' => e = .returned (.int .i64 (cmpS a b)) ∧ w' = w := Tryz.strings_Compare a b w
set_option maxRecDepth 100000 in
theorem closure_s (nm lw : ByteArray) (hd : Value) (w : World) :
    Calls Tryz.prog 171 #[.agg #[.string nm, hd], .string lw] w fun e w' => e = .returned (.int .i64 (cmpS nm lw)) ∧ Below w.heap.size w w' := by
  have X := (abox_new w nm hd).cells
  obtain ⟨x0, x1⟩ := X
  have hb : Below w.heap.size w (w.alloc (.cells #[.string nm, hd] 64)) := (Below.refl _ w).alloc (Nat.le_refl _) _
  go_enter Tryz.func171, Tryz.ntmps171
  go_wp2_with fail
  refine (cmp_s nm lw _).mono ?_
  rintro e w1 ⟨rfl, rfl⟩
  go_wp2_with fail
  go_ret
  exact ⟨rfl, hb⟩
theorem asc_mono {T : List Tr} (hA : Asc ((tats T).map (·.1))) {i j : Nat} (hij : i < j) (hj : j < T.length) : cmpS (trD T i).1 (trD T j).1 < 0 := by
  unfold Asc tats at hA
  rw [List.map_map, List.pairwise_map] at hA
  have := List.pairwise_iff_getElem.1 hA i j (by omega) hj hij
  rw [tr_get T i (by omega), tr_get T j hj]
  exact this
theorem cs_le_lt {a b c : ByteArray} (h1 : ¬ cmpS b a < 0) (h2 : cmpS b c < 0) : cmpS a c < 0 := by
  rcases cs_tri a b with k | k | k
  · exact cs_trans k h2
  · rw [k]; exact h2
  · exact absurd k h1
def geS (a b : ByteArray) : Prop := ¬ cmpS a b < 0
/-- what the search finds -/
def Found (T : List Tr) (lw : ByteArray) (i : Nat) : Prop := i ≤ T.length ∧ (∀ t, t < i → cmpS (trD T t).1 lw < 0) ∧ ∀ t, i ≤ t → t < T.length → geS (trD T t).1 lw
set_option maxRecDepth 100000 in
set_option maxHeartbeats 4000000 in
theorem search_s (ao : Option Addr) (n cap : Nat) (T : List Tr) (lw : ByteArray) (w : World) (h : TsAt w ao n cap T) (hA : Asc ((tats T).map (·.1))) (hn : n ≤ 1000) :
    Calls Tryz.prog 170 #[.slice ao n cap, .string lw, .func (.func 171) #[] #[]] w fun e w' =>
      ∃ i : Nat, e = .returned (.tuple #[.int .i64 i, .bool (decide (i < n ∧ (trD T i).1 = lw))]) ∧ Found T lw i ∧ Below w.heap.size w w' := by
  have HT := Lib.hid h
  have hTl : T.length = n := h.1
  have HA := Lib.hid hA
  clear h hA
  subst hTl
  go_enter Tryz.func170, Tryz.ntmps170
  go_wp2
  go_loopw [9, 10, 11] (fun s9 s10 s11 wr => ∃ lo hi : Nat, s9 = .int .i64 lo ∧ s10 = .int .i64 hi ∧ lo ≤ hi ∧ hi ≤ T.length ∧ Hid (∀ t, t < lo → cmpS (trD T t).1 lw < 0) ∧ Hid (∀ t, hi ≤ t → t < T.length → geS (trD T t).1 lw) ∧ Hid (Below w.heap.size w wr)) (fun s9 s10 _ _ => (intOf s10).toNat - (intOf s9).toNat)
  case atStart => exact ⟨0, T.length, rfl, rfl, Nat.zero_le _, Nat.le_refl _, Lib.hid (fun t ht => absurd ht (Nat.not_lt_zero _)), Lib.hid (fun t h1 h2 => absurd h2 (by omega)), Lib.hid (Below.refl _ _)⟩
  case round =>
    obtain ⟨lo, hi, rfl, rfl, hlh, hin, HLO, HHI, HB⟩ := hrel
    by_cases hlt : lo < hi
    · obtain ⟨b, off, rfl, hblt, _⟩ := HT.out.2.2.2 (by omega)
      obtain ⟨a0, a1⟩ := ts_at HT.out ((lo + hi) / 2) (by omega)
      have a0 := cell_later HB.out a0
      have a1 := cell_later HB.out a1
      obtain ⟨m, hm⟩ : ∃ x, (lo + hi) / 2 = x := ⟨_, rfl⟩
      have hm1 : lo ≤ m := by omega
      have hm2 : m < hi := by omega
      have em : ((lo : Int) + (hi : Int)) / 2 = (m : Int) := by omega
      rw [hm] at a0 a1
      have HLM := Lib.hid (fun (e : cmpS (trD T m).1 lw < 0) t (ht : t < m + 1) => if h : t = m then (by rw [h]; exact e : cmpS (trD T t).1 lw < 0) else cs_trans (asc_mono HA.out (show t < m by omega) (show m < T.length by omega)) e)
      have HHM := Lib.hid (fun (e : ¬ cmpS (trD T m).1 lw < 0) t (ht : m ≤ t) (htl : t < T.length) => if h : t = m then (by rw [h]; exact e : geS (trD T t).1 lw) else fun k => e (cs_trans (asc_mono HA.out (show m < t by omega) htl) k))
      clear hm
      obtain ⟨x, hx⟩ : ∃ x, trD T m = x := ⟨_, rfl⟩
      rw [hx] at a0 a1 HLM HHM
      clear hx
      obtain ⟨p, hd, vs⟩ := x
      simp only [] at a0 a1 HLM HHM
      by_cases hp : cmpS p lw < 0
      · have d1 : decide (cmpS p lw < 0) = true := decide_eq_true hp
        have H2 := Lib.hid (HLM.out hp)
        clear hp
        go_wp2_with fail
        refine (closure_s p lw hd _).mono ?_
        rintro e w1 ⟨rfl, hb⟩
        have HB2 := Lib.hid (HB.out.trans (hb.mono HB.out.size))
        go_wp2_with fail
        go_roundw
        case rel => exact ⟨m + 1, hi, by go_num, rfl, by omega, hin, H2, HHI, HB2⟩
        case measure => simp [intOf]; omega
      · have d1 : decide (cmpS p lw < 0) = false := decide_eq_false hp
        have H2 := Lib.hid (HHM.out hp)
        clear hp
        go_wp2_with fail
        refine (closure_s p lw hd _).mono ?_
        rintro e w1 ⟨rfl, hb⟩
        have HB2 := Lib.hid (HB.out.trans (hb.mono HB.out.size))
        go_wp2_with fail
        go_roundw
        case rel => exact ⟨lo, m, rfl, by go_num, by omega, by omega, HLO, H2, HB2⟩
        case measure => simp [intOf]; omega
    · obtain rfl : hi = lo := by omega
      have HFD := Lib.hid (show Found T lw hi from ⟨hin, HLO.out, HHI.out⟩)
      by_cases hl2 : hi < T.length
      · obtain ⟨b, off, rfl, hblt, _⟩ := HT.out.2.2.2 (by omega)
        obtain ⟨a0, a1⟩ := ts_at HT.out hi hl2
        have a0 := cell_later HB.out a0
        have a1 := cell_later HB.out a1
        obtain ⟨x, hx⟩ : ∃ x, trD T hi = x := ⟨_, rfl⟩
        have HX := Lib.hid hx
        rw [hx] at a0 a1
        clear hx
        obtain ⟨p, hd, vs⟩ := x
        simp only [] at a0 a1
        obtain ⟨z, hz⟩ : ∃ x, decide (p = lw) = x := ⟨_, rfl⟩
        have q1 : (cmpS p lw == 0) = z := by rw [← hz, Bool.eq_iff_iff]; simp [cmpS_ord.zero]
        have HZ := Lib.hid (show decide (hi < T.length ∧ (trD T hi).1 = lw) = z by rw [HX.out, ← hz]; simp [hl2])
        clear hz
        have d2 : (hi : Int) < (T.length : Int) := by omega
        go_wp2_with fail
        refine (closure_s p lw hd _).mono ?_
        rintro e w1 ⟨rfl, hb⟩
        have HB2 := Lib.hid (HB.out.trans (hb.mono HB.out.size))
        go_wp2_with fail
        go_ret2
        exact ⟨hi, by rw [HZ.out]; rfl, HFD.out, HB2.out⟩
      · have HZ := Lib.hid (show decide (hi < T.length ∧ (trD T hi).1 = lw) = false from decide_eq_false fun e => hl2 e.1)
        have d2 : decide ((hi : Int) < (T.length : Int)) = false := decide_eq_false (by omega)
        go_wp2_with fail
        go_ret2
        exact ⟨hi, by rw [HZ.out]; rfl, HFD.out, HB.out⟩

end Go.Proofs.YtclfjdnemafmeaaGreatDoor
end

section
/-
  Contract of attrs.around. Condition: at most 1000 attributes whose names ascend.
-/
set_option maxRecDepth 100000
set_option linter.unusedVariables false
set_option linter.unusedSimpArgs false
set_option linter.unnecessarySimpa false
namespace Go.Proofs.YtclfjdnemafmeaaGreatDoor
open Go.RowKit Go.PlainAid

/-- a list divided at a name -/
structure Parts (T : List Tr) (lw : ByteArray) (B M A : List Tr) (hv : Value) : Prop where
  all : T = B ++ M ++ A
  lo : ∀ t ∈ B, cmpS t.1 lw < 0
  hi : ∀ t ∈ A, cmpS lw t.1 < 0
  mid : (M = [] ∧ hv = .slice none 0 0) ∨ ∃ vs, M = [(lw, hv, vs)]
theorem mem_part {T : List Tr} {i : Nat} {t : Tr} (h : t ∈ T.take i) : ∃ j, j < i ∧ j < T.length ∧ trD T j = t := by
  obtain ⟨j, hj, rfl⟩ := List.mem_take_iff_getElem.1 h
  exact ⟨j, by omega, by omega, tr_get T j (by omega)⟩
theorem mem_rest {T : List Tr} {i : Nat} {t : Tr} (h : t ∈ T.drop i) : ∃ j, i ≤ j ∧ j < T.length ∧ trD T j = t := by
  obtain ⟨j, hj, rfl⟩ := List.mem_drop_iff_getElem.1 h
  exact ⟨i + j, by omega, by omega, by rw [tr_get T (i + j) (by omega)]⟩
theorem parts_none {T : List Tr} {lw : ByteArray} {i : Nat} (hA : Asc ((tats T).map (·.1))) (h : Found T lw i) (hn : ¬ (i < T.length ∧ (trD T i).1 = lw)) : Parts T lw (T.take i) [] (T.drop i) (.slice none 0 0) where
  all := by rw [List.append_nil, List.take_append_drop]
  lo t ht := by obtain ⟨j, h1, h2, rfl⟩ := mem_part ht; exact h.2.1 j h1
  hi t ht := by
    obtain ⟨j, h1, h2, rfl⟩ := mem_rest ht
    have hi' : cmpS lw (trD T i).1 < 0 := by
      have hge : ¬ cmpS (trD T i).1 lw < 0 := h.2.2 i (Nat.le_refl _) (by omega)
      rcases cs_tri (trD T i).1 lw with k | k | k
      · exact absurd k hge
      · exact absurd ⟨by omega, k⟩ hn
      · exact k
    rcases Nat.lt_or_eq_of_le h1 with k | k
    · exact cs_trans hi' (asc_mono hA k h2)
    · subst k; exact hi'
  mid := .inl ⟨rfl, rfl⟩
theorem parts_some {T : List Tr} {lw : ByteArray} {i : Nat} {hd : Value} {vs : List ByteArray} (hA : Asc ((tats T).map (·.1))) (h : Found T lw i) (hi : i < T.length) (e : trD T i = (lw, hd, vs)) : Parts T lw (T.take i) [(lw, hd, vs)] (T.drop (i + 1)) hd where
  all := by
    have h1 : T.take (i + 1) = T.take i ++ [trD T i] := tr_take T i hi
    rw [← e, ← h1, List.take_append_drop]
  lo t ht := by obtain ⟨j, h1, h2, rfl⟩ := mem_part ht; exact h.2.1 j h1
  hi t ht := by
    obtain ⟨j, h1, h2, rfl⟩ := mem_rest ht
    have := asc_mono hA (show i < j by omega) h2
    rw [e] at this
    exact this
  mid := .inr ⟨vs, rfl⟩
theorem ts_cut {w : World} {ao : Option Addr} {n cap : Nat} {T : List Tr} (h : TsAt w ao n cap T) (i : Nat) (hi : i ≤ n) : TsAt w ao i i (T.take i) := by
  obtain ⟨h1, h2, h3, h4⟩ := h
  refine ⟨by rw [List.length_take]; omega, Nat.le_refl _, by omega, fun hn => ?_⟩
  obtain ⟨b, off, e, hb, ha⟩ := h4 (by omega)
  refine ⟨b, off, e, hb, fun j u hj => ha j u ?_⟩
  rw [← tcells_take, List.getElem?_take] at hj
  split at hj
  · exact hj
  · cases hj
theorem ts_rest {w : World} {b off n cap : Nat} {T : List Tr} (h : TsAt w (some ⟨b, off, none⟩) n cap T) (i : Nat) (hi : i ≤ n) : TsAt w (some ⟨b, off + i * 2, none⟩) (n - i) (cap - i) (T.drop i) := by
  obtain ⟨h1, h2, h3, h4⟩ := h
  refine ⟨by rw [List.length_drop]; omega, by omega, by omega, fun hn => ?_⟩
  obtain ⟨b', off', e, hb, ha⟩ := h4 (by omega)
  cases e
  refine ⟨b, off + i * 2, rfl, hb, fun j u hj => ?_⟩
  rw [← tcells_drop T i (by omega), List.getElem?_drop] at hj
  rw [Nat.add_assoc]
  exact ha _ _ hj
theorem ts_none {w : World} {ao bo : Option Addr} {n cap c : Nat} {T : List Tr} (h : TsAt w ao n cap T) (i : Nat) (hi : n ≤ i) (hc : c ≤ maxLen) : TsAt w bo 0 c (T.drop i) := by
  have e : T.drop i = [] := List.drop_of_length_le (by rw [h.1]; exact hi)
  rw [e]
  exact ts_nil w bo c hc
/-- where a part lies -/
def Lies (ao bo : Option Addr) : Prop := ∀ ad, bo = some ad → ∃ b off off', ad = ⟨b, off, none⟩ ∧ ao = some ⟨b, off', none⟩

set_option maxRecDepth 100000 in
set_option maxHeartbeats 8000000 in
theorem around_s (ao : Option Addr) (n cap : Nat) (T : List Tr) (name : ByteArray) (w : World) (h : TsAt w ao n cap T) (hA : Asc ((tats T).map (·.1))) (hn : n ≤ 1000) (hz : ao = none → cap = 0) (hp : ∀ ad, ao = some ad → ad.spot = none) (hns : name.size ≤ 1000000) :
    Calls Tryz.prog 142 #[.slice ao n cap, .string name] w fun e w' => ∃ (B M A : List Tr) (hv : Value) (bo : Option Addr) (c : Nat), e = .returned (.tuple #[.slice ao B.length B.length, hv, .slice bo A.length c]) ∧
      Parts T (lowS name) B M A hv ∧ TsAt w' ao B.length B.length B ∧ TsAt w' bo A.length c A ∧ Lies ao bo ∧ Below w.heap.size w w' := by
  have hTl : T.length = n := h.1
  have HS0 := Lib.hid (fun lw w1 (hb : Below w.heap.size w w1) => search_s ao n cap T lw w1 (h.below hb) hA hn)
  have HT := Lib.hid h
  have HA := Lib.hid hA
  have hcn : n ≤ cap := h.2.1
  have hcm : cap ≤ 9223372036854775807 := h.2.2.1
  clear h hA
  obtain ⟨lw, hlw⟩ : ∃ x, lowS name = x := ⟨_, rfl⟩
  have HLW := Lib.hid hlw
  rw [hlw]
  clear hlw
  go_enter Tryz.func142, Tryz.ntmps142
  go_wp2_with fail
  refine (lower_s name w (by omega)).mono ?_
  rintro e w1 ⟨rfl, hb⟩
  rw [HLW.out]
  have HS := Lib.hid (HS0.out lw w1 hb)
  have HB1 := Lib.hid hb
  clear HS0 hb
  go_wp2_with fail
  refine HS.out.mono ?_
  rintro e w2 ⟨i, rfl, hfd, hb⟩
  have hin : i ≤ n := by rw [← hTl]; exact hfd.1
  have HFD := Lib.hid hfd
  have HB2 := Lib.hid (HB1.out.trans (hb.mono HB1.out.size))
  have HT2 := Lib.hid (HT.out.below HB2.out)
  clear hfd hb HS HB1
  have HBd : Hid (Below w.heap.size w w2.drew) := Lib.hid HB2.out.drew
  have k0 : (0 : Int) ≤ (i : Int) := by omega
  have k1 : (i : Int) ≤ (cap : Int) := by omega
  have k2 : (i : Int) ≤ (n : Int) := by omega
  have hBl : (T.take i).length = i := by rw [List.length_take]; omega
  cases ao with
  | none =>
    have hc0 := hz rfl
    subst hc0
    obtain rfl : n = 0 := by omega
    obtain rfl : i = 0 := by omega
    have hf : decide (0 < 0 ∧ (trD T 0).1 = lw) = false := by simp
    rw [hf]
    have HP := Lib.hid (parts_none (lw := lw) HA.out HFD.out (by omega))
    go_wp2_with fail
    refine wp_region_held_drew (S := fun W => Hid (Below w.heap.size w W)) (by kernel_rfl) (HBd) (fun hS => ?_)
    refine wpAnyH_take (i := 0) (oi := { dst := some 16, op := _, type := _, pos := _, after := _, guard := _ }) (v := ?_) rfl (by kernel_rfl) (by kernel_rfl) (by kernel_rfl) (fun _ _ _ h => h) (Or.inl ⟨by rfl, ?_⟩) (by assumption) ?_
    rotate_left
    · intro w hSw
      try dsimp only at hSw
      go_simp
      try with_reducible rfl
    try simp only [Act.put, List.setIfInBounds_toArray, List.set_cons_zero, List.set_cons_succ]
    refine wpAnyH_take (i := 1) (oi := { dst := some 17, op := _, type := _, pos := _, after := _, guard := _ }) (v := ?_) rfl (by kernel_rfl) (by kernel_rfl) (by kernel_rfl) (fun _ _ _ h => h) (Or.inl ⟨by rfl, ?_⟩) (by assumption) ?_
    rotate_left
    · intro w hSw
      try dsimp only at hSw
      go_simp
      try with_reducible rfl
    try simp only [Act.put, List.setIfInBounds_toArray, List.set_cons_zero, List.set_cons_succ]
    refine wpAnyH_take (i := 2) (oi := { dst := some 18, op := _, type := _, pos := _, after := _, guard := _ }) (v := ?_) rfl (by kernel_rfl) (by kernel_rfl) (by kernel_rfl) (fun _ _ _ h => h) (Or.inl ⟨by rfl, ?_⟩) (by assumption) ?_
    rotate_left
    · intro w hSw
      try dsimp only at hSw
      go_simp
      try with_reducible rfl
    try simp only [Act.put, List.setIfInBounds_toArray, List.set_cons_zero, List.set_cons_succ]
    refine wpAnyH_take (i := 3) (oi := { dst := some 19, op := _, type := _, pos := _, after := _, guard := _ }) (v := ?_) rfl (by kernel_rfl) (by kernel_rfl) (by kernel_rfl) (fun _ _ _ h => h) (Or.inl ⟨by rfl, ?_⟩) (by assumption) ?_
    rotate_left
    · intro w hSw
      try dsimp only at hSw
      go_simp
      try with_reducible rfl
    try simp only [Act.put, List.setIfInBounds_toArray, List.set_cons_zero, List.set_cons_succ]
    refine wpAnyH_take (i := 4) (oi := { dst := some 20, op := _, type := _, pos := _, after := _, guard := _ }) (v := ?_) rfl (by kernel_rfl) (by kernel_rfl) (by kernel_rfl) (fun _ _ _ h => h) (Or.inl ⟨by rfl, ?_⟩) (by assumption) ?_
    rotate_left
    · intro w hSw
      try dsimp only at hSw
      go_simp
      try with_reducible rfl
    try simp only [Act.put, List.setIfInBounds_toArray, List.set_cons_zero, List.set_cons_succ]
    refine wpAnyH_take (i := 5) (oi := { dst := some 21, op := _, type := _, pos := _, after := _, guard := _ }) (v := ?_) rfl (by kernel_rfl) (by kernel_rfl) (by kernel_rfl) (fun _ _ _ h => h) (Or.inl ⟨by rfl, ?_⟩) (by assumption) ?_
    rotate_left
    · intro w hSw
      try dsimp only at hSw
      go_simp
      try with_reducible rfl
    try simp only [Act.put, List.setIfInBounds_toArray, List.set_cons_zero, List.set_cons_succ]
    refine wpAnyH_take (i := 6) (oi := { dst := some 22, op := _, type := _, pos := _, after := _, guard := _ }) (v := ?_) rfl (by kernel_rfl) (by kernel_rfl) (by kernel_rfl) (fun _ _ _ h => h) (Or.inl ⟨by rfl, ?_⟩) (by assumption) ?_
    rotate_left
    · intro w hSw
      try dsimp only at hSw
      go_simp
      try with_reducible rfl
    try simp only [Act.put, List.setIfInBounds_toArray, List.set_cons_zero, List.set_cons_succ]
    refine wpAnyH_take (i := 7) (oi := { dst := some 4, op := _, type := _, pos := _, after := _, guard := _ }) (v := ?_) rfl (by kernel_rfl) (by kernel_rfl) (by kernel_rfl) (fun _ _ _ h => h) (Or.inl ⟨by rfl, ?_⟩) (by assumption) ?_
    rotate_left
    · intro w hSw
      try dsimp only at hSw
      go_simp
      try with_reducible rfl
    try simp only [Act.put, List.setIfInBounds_toArray, List.set_cons_zero, List.set_cons_succ]
    refine wpAnyH_take (i := 8) (oi := { dst := some 6, op := _, type := _, pos := _, after := _, guard := _ }) (v := ?_) rfl (by kernel_rfl) (by kernel_rfl) (by kernel_rfl) (fun _ _ _ h => h) (Or.inl ⟨by rfl, ?_⟩) (by assumption) ?_
    rotate_left
    · intro w hSw
      try dsimp only at hSw
      go_simp
      try with_reducible rfl
    try simp only [Act.put, List.setIfInBounds_toArray, List.set_cons_zero, List.set_cons_succ]
    refine wpAnyH_done (by kernel_rfl) ?_ _
    go_wp2_with fail
    go_ret3
    have hT0 : T = [] := List.length_eq_zero_iff.1 hTl
    subst hT0
    exact ⟨[], [], [], _, none, 0, rfl, HP.out, ts_nil _ _ _ (by unfold maxLen; omega), ts_nil _ _ _ (by unfold maxLen; omega), (fun ad e => by cases e), HBd.out⟩
  | some ad =>
    have hsp := hp ad rfl
    obtain ⟨b, off, spot⟩ := ad
    simp only at hsp
    subst hsp
    have hT2d : Hid (TsAt w2.drew (some ⟨b, off, none⟩) n cap T) := Lib.hid (HT2.out.below (Below.refl _ w2).drew)
    have HTB := Lib.hid (ts_cut hT2d.out i hin)
    by_cases hic : i < cap
    · have k3 : (i : Int) < (cap : Int) := by omega
      have k4 : ¬ cap = i := by omega
      by_cases hfo : i < n ∧ (trD T i).1 = lw
      · have hf : decide (i < n ∧ (trD T i).1 = lw) = true := decide_eq_true hfo
        rw [hf]
        obtain ⟨hfi, hfe⟩ := hfo
        obtain ⟨a0, a1⟩ := ts_at hT2d.out i hfi
        obtain ⟨x, hx⟩ : ∃ x, trD T i = x := ⟨_, rfl⟩
        rw [hx] at a1 hfe
        have HX := Lib.hid hx
        clear hx a0
        obtain ⟨p, hd, vs⟩ := x
        simp only [] at a1 hfe
        subst hfe
        have HP := Lib.hid (parts_some HA.out HFD.out (by omega) HX.out)
        have HTA := Lib.hid (ts_rest hT2d.out (i + 1) (by omega))
        have HTN := Lib.hid (fun (bo : Option Addr) (c : Nat) => ts_none (bo := bo) (c := c) hT2d.out (i + 1))
        have hAl : (T.drop (i + 1)).length = n - (i + 1) := by rw [List.length_drop]; omega
        go_wp2_with fail
        refine wp_region_held_drew (S := fun W => Hid (Below w.heap.size w W)) (by kernel_rfl) (HBd) (fun hS => ?_)
        refine wpAnyH_take (i := 0) (oi := { dst := some 16, op := _, type := _, pos := _, after := _, guard := _ }) (v := ?_) rfl (by kernel_rfl) (by kernel_rfl) (by kernel_rfl) (fun _ _ _ h => h) (Or.inl ⟨by rfl, ?_⟩) (by assumption) ?_
        rotate_left
        · intro w hSw
          try dsimp only at hSw
          go_simp
          try with_reducible rfl
        try simp only [Act.put, List.setIfInBounds_toArray, List.set_cons_zero, List.set_cons_succ]
        refine wpAnyH_take (i := 1) (oi := { dst := some 17, op := _, type := _, pos := _, after := _, guard := _ }) (v := ?_) rfl (by kernel_rfl) (by kernel_rfl) (by kernel_rfl) (fun _ _ _ h => h) (Or.inl ⟨by rfl, ?_⟩) (by assumption) ?_
        rotate_left
        · intro w hSw
          try dsimp only at hSw
          go_simp
          try with_reducible rfl
        try simp only [Act.put, List.setIfInBounds_toArray, List.set_cons_zero, List.set_cons_succ]
        refine wpAnyH_take (i := 2) (oi := { dst := some 18, op := _, type := _, pos := _, after := _, guard := _ }) (v := ?_) rfl (by kernel_rfl) (by kernel_rfl) (by kernel_rfl) (fun _ _ _ h => h) (Or.inl ⟨by rfl, ?_⟩) (by assumption) ?_
        rotate_left
        · intro w hSw
          try dsimp only at hSw
          go_simp
          try with_reducible rfl
        try simp only [Act.put, List.setIfInBounds_toArray, List.set_cons_zero, List.set_cons_succ]
        refine wpAnyH_take (i := 3) (oi := { dst := some 19, op := _, type := _, pos := _, after := _, guard := _ }) (v := ?_) rfl (by kernel_rfl) (by kernel_rfl) (by kernel_rfl) (fun _ _ _ h => h) (Or.inl ⟨by rfl, ?_⟩) (by assumption) ?_
        rotate_left
        · intro w hSw
          try dsimp only at hSw
          go_simp
          try with_reducible rfl
        try simp only [Act.put, List.setIfInBounds_toArray, List.set_cons_zero, List.set_cons_succ]
        refine wpAnyH_take (i := 4) (oi := { dst := some 20, op := _, type := _, pos := _, after := _, guard := _ }) (v := ?_) rfl (by kernel_rfl) (by kernel_rfl) (by kernel_rfl) (fun _ _ _ h => h) (Or.inl ⟨by rfl, ?_⟩) (by assumption) ?_
        rotate_left
        · intro w hSw
          try dsimp only at hSw
          go_simp
          try with_reducible rfl
        try simp only [Act.put, List.setIfInBounds_toArray, List.set_cons_zero, List.set_cons_succ]
        refine wpAnyH_take (i := 5) (oi := { dst := some 21, op := _, type := _, pos := _, after := _, guard := _ }) (v := ?_) rfl (by kernel_rfl) (by kernel_rfl) (by kernel_rfl) (fun _ _ _ h => h) (Or.inl ⟨by rfl, ?_⟩) (by assumption) ?_
        rotate_left
        · intro w hSw
          try dsimp only at hSw
          go_simp
          try with_reducible rfl
        try simp only [Act.put, List.setIfInBounds_toArray, List.set_cons_zero, List.set_cons_succ]
        refine wpAnyH_take (i := 6) (oi := { dst := some 22, op := _, type := _, pos := _, after := _, guard := _ }) (v := ?_) rfl (by kernel_rfl) (by kernel_rfl) (by kernel_rfl) (fun _ _ _ h => h) (Or.inl ⟨by rfl, ?_⟩) (by assumption) ?_
        rotate_left
        · intro w hSw
          try dsimp only at hSw
          go_simp
          try with_reducible rfl
        try simp only [Act.put, List.setIfInBounds_toArray, List.set_cons_zero, List.set_cons_succ]
        refine wpAnyH_take (i := 7) (oi := { dst := some 4, op := _, type := _, pos := _, after := _, guard := _ }) (v := ?_) rfl (by kernel_rfl) (by kernel_rfl) (by kernel_rfl) (fun _ _ _ h => h) (Or.inl ⟨by rfl, ?_⟩) (by assumption) ?_
        rotate_left
        · intro w hSw
          try dsimp only at hSw
          go_simp
          try with_reducible rfl
        try simp only [Act.put, List.setIfInBounds_toArray, List.set_cons_zero, List.set_cons_succ]
        refine wpAnyH_take (i := 8) (oi := { dst := some 6, op := _, type := _, pos := _, after := _, guard := _ }) (v := ?_) rfl (by kernel_rfl) (by kernel_rfl) (by kernel_rfl) (fun _ _ _ h => h) (Or.inl ⟨by rfl, ?_⟩) (by assumption) ?_
        rotate_left
        · intro w hSw
          try dsimp only at hSw
          go_simp
          try with_reducible rfl
        try simp only [Act.put, List.setIfInBounds_toArray, List.set_cons_zero, List.set_cons_succ]
        refine wpAnyH_done (by kernel_rfl) ?_ _
        obtain ⟨m, hm⟩ : ∃ x, n - i = x := ⟨_, rfl⟩
        obtain ⟨c, hc⟩ : ∃ x, cap - i = x := ⟨_, rfl⟩
        have hm0 : 0 < m := by omega
        have hmc : m ≤ c := by omega
        have m1 : (0 : Int) < (m : Int) := by omega
        have m2 : (1 : Int) ≤ (m : Int) := by omega
        have m3 : (1 : Int) ≤ (c : Int) := by omega
        have hcb : c ≤ 9223372036854775807 := by omega
        have a1d : w2.drew.drew.cell? ⟨b, off + i * 2 + 1, none⟩ = some hd := a1
        have HBdd : Hid (Below w.heap.size w w2.drew.drew) := Lib.hid HBd.out.drew
        by_cases hc1 : c = 1
        · subst hc1
          have hAl2 : (T.drop (i + 1)).length = 0 := by omega
          go_wp2_with fail
          rw [hm, hc]
          refine wp_region_held_drew (S := fun W => W.cell? ⟨b, off + i * 2 + 1, none⟩ = some hd ∧ Hid (Below w.heap.size w W)) (by kernel_rfl) (⟨a1d, HBdd⟩) (fun hS => ?_)
          refine wpAnyH_take (i := 0) (oi := { dst := some 24, op := _, type := _, pos := _, after := _, guard := _ }) (v := ?_) rfl (by kernel_rfl) (by kernel_rfl) (by kernel_rfl) (fun _ _ _ h => h) (Or.inl ⟨by rfl, ?_⟩) (by assumption) ?_
          rotate_left
          · intro w hSw
            try dsimp only at hSw
            go_simp
            try with_reducible rfl
          try simp only [Act.put, List.setIfInBounds_toArray, List.set_cons_zero, List.set_cons_succ]
          refine wpAnyH_take (i := 1) (oi := { dst := some 25, op := _, type := _, pos := _, after := _, guard := _ }) (v := ?_) rfl (by kernel_rfl) (by kernel_rfl) (by kernel_rfl) (fun _ _ _ h => h) (Or.inl ⟨by rfl, ?_⟩) (by assumption) ?_
          rotate_left
          · intro w hSw
            try dsimp only at hSw
            go_simp
            try with_reducible rfl
          try simp only [Act.put, List.setIfInBounds_toArray, List.set_cons_zero, List.set_cons_succ]
          refine wpAnyH_take (i := 2) (oi := { dst := some 26, op := _, type := _, pos := _, after := _, guard := _ }) (v := ?_) rfl (by kernel_rfl) (by kernel_rfl) (by kernel_rfl) (fun _ _ _ h => h) (Or.inl ⟨by rfl, ?_⟩) (by assumption) ?_
          rotate_left
          · intro w hSw
            try dsimp only at hSw
            go_simp
            try with_reducible rfl
          try simp only [Act.put, List.setIfInBounds_toArray, List.set_cons_zero, List.set_cons_succ]
          refine wpAnyH_take (i := 3) (oi := { dst := some 27, op := _, type := _, pos := _, after := _, guard := _ }) (v := ?_) rfl (by kernel_rfl) (by kernel_rfl) (by kernel_rfl) (fun _ _ _ h => h) (Or.inl ⟨by rfl, ?_⟩) (by assumption) ?_
          rotate_left
          · intro w hSw
            try dsimp only at hSw
            go_simp
            try with_reducible rfl
          try simp only [Act.put, List.setIfInBounds_toArray, List.set_cons_zero, List.set_cons_succ]
          refine wpAnyH_take (i := 4) (oi := { dst := some 28, op := _, type := _, pos := _, after := _, guard := _ }) (v := ?_) rfl (by kernel_rfl) (by kernel_rfl) (by kernel_rfl) (fun _ _ _ h => h) (Or.inl ⟨by rfl, ?_⟩) (by assumption) ?_
          rotate_left
          · intro w hSw
            try dsimp only at hSw
            go_simp
            try with_reducible rfl
          try simp only [Act.put, List.setIfInBounds_toArray, List.set_cons_zero, List.set_cons_succ]
          refine wpAnyH_take (i := 5) (oi := { dst := some 29, op := _, type := _, pos := _, after := _, guard := _ }) (v := ?_) rfl (by kernel_rfl) (by kernel_rfl) (by kernel_rfl) (fun _ _ _ h => h) (Or.inl ⟨by rfl, ?_⟩) (by assumption) ?_
          rotate_left
          · intro w hSw
            try dsimp only at hSw
            go_simp
            try with_reducible rfl
          try simp only [Act.put, List.setIfInBounds_toArray, List.set_cons_zero, List.set_cons_succ]
          refine wpAnyH_take (i := 6) (oi := { dst := some 5, op := _, type := _, pos := _, after := _, guard := _ }) (v := ?_) rfl (by kernel_rfl) (by kernel_rfl) (by kernel_rfl) (fun _ _ _ h => h) (Or.inl ⟨by rfl, ?_⟩) (by assumption) ?_
          rotate_left
          · intro w hSw
            try dsimp only at hSw
            go_simp
            try with_reducible rfl
          try simp only [Act.put, List.setIfInBounds_toArray, List.set_cons_zero, List.set_cons_succ]
          refine wpAnyH_take (i := 7) (oi := { dst := some 6, op := _, type := _, pos := _, after := _, guard := _ }) (v := ?_) rfl (by kernel_rfl) (by kernel_rfl) (by kernel_rfl) (fun _ _ _ h => h) (Or.inl ⟨by rfl, ?_⟩) (by assumption) ?_
          rotate_left
          · intro w hSw
            try dsimp only at hSw
            go_simp
            try with_reducible rfl
          try simp only [Act.put, List.setIfInBounds_toArray, List.set_cons_zero, List.set_cons_succ]
          refine wpAnyH_done (by kernel_rfl) ?_ _
          go_wp2_with fail
          go_ret3
          have hTN := HTN.out (some ⟨b, off + i * 2, none⟩) 0 (by omega) (by unfold maxLen; omega)
          have hmm : m - 1 = 0 := by omega
          exact ⟨T.take i, [(p, hd, vs)], T.drop (i + 1), hd, some ⟨b, off + i * 2, none⟩, 0, by rw [hBl, hAl2, ← hmm]; rfl, HP.out, by rw [hBl]; exact HTB.out, by rw [hAl2]; exact hTN, fun ad e => by cases e; exact ⟨b, off + i * 2, off, rfl, rfl⟩, HBdd.out⟩
        · have m4 : (1 : Int) < (c : Int) := by omega
          have m5 : ¬ c = 1 := hc1
          go_wp2_with fail
          rw [hm, hc]
          refine wp_region_held_drew (S := fun W => W.cell? ⟨b, off + i * 2 + 1, none⟩ = some hd ∧ Hid (Below w.heap.size w W)) (by kernel_rfl) (⟨a1d, HBdd⟩) (fun hS => ?_)
          refine wpAnyH_take (i := 0) (oi := { dst := some 24, op := _, type := _, pos := _, after := _, guard := _ }) (v := ?_) rfl (by kernel_rfl) (by kernel_rfl) (by kernel_rfl) (fun _ _ _ h => h) (Or.inl ⟨by rfl, ?_⟩) (by assumption) ?_
          rotate_left
          · intro w hSw
            try dsimp only at hSw
            go_simp
            try with_reducible rfl
          try simp only [Act.put, List.setIfInBounds_toArray, List.set_cons_zero, List.set_cons_succ]
          refine wpAnyH_take (i := 1) (oi := { dst := some 25, op := _, type := _, pos := _, after := _, guard := _ }) (v := ?_) rfl (by kernel_rfl) (by kernel_rfl) (by kernel_rfl) (fun _ _ _ h => h) (Or.inl ⟨by rfl, ?_⟩) (by assumption) ?_
          rotate_left
          · intro w hSw
            try dsimp only at hSw
            go_simp
            try with_reducible rfl
          try simp only [Act.put, List.setIfInBounds_toArray, List.set_cons_zero, List.set_cons_succ]
          refine wpAnyH_take (i := 2) (oi := { dst := some 26, op := _, type := _, pos := _, after := _, guard := _ }) (v := ?_) rfl (by kernel_rfl) (by kernel_rfl) (by kernel_rfl) (fun _ _ _ h => h) (Or.inl ⟨by rfl, ?_⟩) (by assumption) ?_
          rotate_left
          · intro w hSw
            try dsimp only at hSw
            go_simp
            try with_reducible rfl
          try simp only [Act.put, List.setIfInBounds_toArray, List.set_cons_zero, List.set_cons_succ]
          refine wpAnyH_take (i := 3) (oi := { dst := some 27, op := _, type := _, pos := _, after := _, guard := _ }) (v := ?_) rfl (by kernel_rfl) (by kernel_rfl) (by kernel_rfl) (fun _ _ _ h => h) (Or.inl ⟨by rfl, ?_⟩) (by assumption) ?_
          rotate_left
          · intro w hSw
            try dsimp only at hSw
            go_simp
            try with_reducible rfl
          try simp only [Act.put, List.setIfInBounds_toArray, List.set_cons_zero, List.set_cons_succ]
          refine wpAnyH_take (i := 4) (oi := { dst := some 28, op := _, type := _, pos := _, after := _, guard := _ }) (v := ?_) rfl (by kernel_rfl) (by kernel_rfl) (by kernel_rfl) (fun _ _ _ h => h) (Or.inl ⟨by rfl, ?_⟩) (by assumption) ?_
          rotate_left
          · intro w hSw
            try dsimp only at hSw
            go_simp
            try with_reducible rfl
          try simp only [Act.put, List.setIfInBounds_toArray, List.set_cons_zero, List.set_cons_succ]
          refine wpAnyH_take (i := 5) (oi := { dst := some 29, op := _, type := _, pos := _, after := _, guard := _ }) (v := ?_) rfl (by kernel_rfl) (by kernel_rfl) (by kernel_rfl) (fun _ _ _ h => h) (Or.inl ⟨by rfl, ?_⟩) (by assumption) ?_
          rotate_left
          · intro w hSw
            try dsimp only at hSw
            go_simp
            try with_reducible rfl
          try simp only [Act.put, List.setIfInBounds_toArray, List.set_cons_zero, List.set_cons_succ]
          refine wpAnyH_take (i := 6) (oi := { dst := some 5, op := _, type := _, pos := _, after := _, guard := _ }) (v := ?_) rfl (by kernel_rfl) (by kernel_rfl) (by kernel_rfl) (fun _ _ _ h => h) (Or.inl ⟨by rfl, ?_⟩) (by assumption) ?_
          rotate_left
          · intro w hSw
            try dsimp only at hSw
            go_simp
            try with_reducible rfl
          try simp only [Act.put, List.setIfInBounds_toArray, List.set_cons_zero, List.set_cons_succ]
          refine wpAnyH_take (i := 7) (oi := { dst := some 6, op := _, type := _, pos := _, after := _, guard := _ }) (v := ?_) rfl (by kernel_rfl) (by kernel_rfl) (by kernel_rfl) (fun _ _ _ h => h) (Or.inl ⟨by rfl, ?_⟩) (by assumption) ?_
          rotate_left
          · intro w hSw
            try dsimp only at hSw
            go_simp
            try with_reducible rfl
          try simp only [Act.put, List.setIfInBounds_toArray, List.set_cons_zero, List.set_cons_succ]
          refine wpAnyH_done (by kernel_rfl) ?_ _
          go_wp2_with fail
          go_ret3
          have e1 : n - (i + 1) = m - 1 := by omega
          have e2 : cap - (i + 1) = c - 1 := by omega
          have e3 : off + (i + 1) * 2 = off + i * 2 + 2 := by omega
          have hTA := HTA.out
          rw [e1, e2, e3] at hTA
          rw [e1] at hAl
          exact ⟨T.take i, [(p, hd, vs)], T.drop (i + 1), hd, some ⟨b, off + i * 2 + 2, none⟩, c - 1, by rw [hBl, hAl]; rfl, HP.out, by rw [hBl]; exact HTB.out, by rw [hAl]; exact hTA, fun ad e => by cases e; exact ⟨b, off + i * 2 + 2, off, rfl, rfl⟩, HBdd.out⟩
      · have hf : decide (i < n ∧ (trD T i).1 = lw) = false := decide_eq_false hfo
        rw [hf]
        have HP := Lib.hid (parts_none (lw := lw) HA.out HFD.out (by rw [hTl]; exact hfo))
        have HTA := Lib.hid (ts_rest hT2d.out i hin)
        have hAl : (T.drop i).length = n - i := by rw [List.length_drop]; omega
        go_wp2_with fail
        refine wp_region_held_drew (S := fun W => Hid (Below w.heap.size w W)) (by kernel_rfl) (HBd) (fun hS => ?_)
        refine wpAnyH_take (i := 0) (oi := { dst := some 16, op := _, type := _, pos := _, after := _, guard := _ }) (v := ?_) rfl (by kernel_rfl) (by kernel_rfl) (by kernel_rfl) (fun _ _ _ h => h) (Or.inl ⟨by rfl, ?_⟩) (by assumption) ?_
        rotate_left
        · intro w hSw
          try dsimp only at hSw
          go_simp
          try with_reducible rfl
        try simp only [Act.put, List.setIfInBounds_toArray, List.set_cons_zero, List.set_cons_succ]
        refine wpAnyH_take (i := 1) (oi := { dst := some 17, op := _, type := _, pos := _, after := _, guard := _ }) (v := ?_) rfl (by kernel_rfl) (by kernel_rfl) (by kernel_rfl) (fun _ _ _ h => h) (Or.inl ⟨by rfl, ?_⟩) (by assumption) ?_
        rotate_left
        · intro w hSw
          try dsimp only at hSw
          go_simp
          try with_reducible rfl
        try simp only [Act.put, List.setIfInBounds_toArray, List.set_cons_zero, List.set_cons_succ]
        refine wpAnyH_take (i := 2) (oi := { dst := some 18, op := _, type := _, pos := _, after := _, guard := _ }) (v := ?_) rfl (by kernel_rfl) (by kernel_rfl) (by kernel_rfl) (fun _ _ _ h => h) (Or.inl ⟨by rfl, ?_⟩) (by assumption) ?_
        rotate_left
        · intro w hSw
          try dsimp only at hSw
          go_simp
          try with_reducible rfl
        try simp only [Act.put, List.setIfInBounds_toArray, List.set_cons_zero, List.set_cons_succ]
        refine wpAnyH_take (i := 3) (oi := { dst := some 19, op := _, type := _, pos := _, after := _, guard := _ }) (v := ?_) rfl (by kernel_rfl) (by kernel_rfl) (by kernel_rfl) (fun _ _ _ h => h) (Or.inl ⟨by rfl, ?_⟩) (by assumption) ?_
        rotate_left
        · intro w hSw
          try dsimp only at hSw
          go_simp
          try with_reducible rfl
        try simp only [Act.put, List.setIfInBounds_toArray, List.set_cons_zero, List.set_cons_succ]
        refine wpAnyH_take (i := 4) (oi := { dst := some 20, op := _, type := _, pos := _, after := _, guard := _ }) (v := ?_) rfl (by kernel_rfl) (by kernel_rfl) (by kernel_rfl) (fun _ _ _ h => h) (Or.inl ⟨by rfl, ?_⟩) (by assumption) ?_
        rotate_left
        · intro w hSw
          try dsimp only at hSw
          go_simp
          try with_reducible rfl
        try simp only [Act.put, List.setIfInBounds_toArray, List.set_cons_zero, List.set_cons_succ]
        refine wpAnyH_take (i := 5) (oi := { dst := some 21, op := _, type := _, pos := _, after := _, guard := _ }) (v := ?_) rfl (by kernel_rfl) (by kernel_rfl) (by kernel_rfl) (fun _ _ _ h => h) (Or.inl ⟨by rfl, ?_⟩) (by assumption) ?_
        rotate_left
        · intro w hSw
          try dsimp only at hSw
          go_simp
          try with_reducible rfl
        try simp only [Act.put, List.setIfInBounds_toArray, List.set_cons_zero, List.set_cons_succ]
        refine wpAnyH_take (i := 6) (oi := { dst := some 22, op := _, type := _, pos := _, after := _, guard := _ }) (v := ?_) rfl (by kernel_rfl) (by kernel_rfl) (by kernel_rfl) (fun _ _ _ h => h) (Or.inl ⟨by rfl, ?_⟩) (by assumption) ?_
        rotate_left
        · intro w hSw
          try dsimp only at hSw
          go_simp
          try with_reducible rfl
        try simp only [Act.put, List.setIfInBounds_toArray, List.set_cons_zero, List.set_cons_succ]
        refine wpAnyH_take (i := 7) (oi := { dst := some 4, op := _, type := _, pos := _, after := _, guard := _ }) (v := ?_) rfl (by kernel_rfl) (by kernel_rfl) (by kernel_rfl) (fun _ _ _ h => h) (Or.inl ⟨by rfl, ?_⟩) (by assumption) ?_
        rotate_left
        · intro w hSw
          try dsimp only at hSw
          go_simp
          try with_reducible rfl
        try simp only [Act.put, List.setIfInBounds_toArray, List.set_cons_zero, List.set_cons_succ]
        refine wpAnyH_take (i := 8) (oi := { dst := some 6, op := _, type := _, pos := _, after := _, guard := _ }) (v := ?_) rfl (by kernel_rfl) (by kernel_rfl) (by kernel_rfl) (fun _ _ _ h => h) (Or.inl ⟨by rfl, ?_⟩) (by assumption) ?_
        rotate_left
        · intro w hSw
          try dsimp only at hSw
          go_simp
          try with_reducible rfl
        try simp only [Act.put, List.setIfInBounds_toArray, List.set_cons_zero, List.set_cons_succ]
        refine wpAnyH_done (by kernel_rfl) ?_ _
        go_wp2_with fail
        go_ret3
        exact ⟨T.take i, [], T.drop i, _, some ⟨b, off + i * 2, none⟩, cap - i, by rw [hBl, hAl]; rfl, HP.out, by rw [hBl]; exact HTB.out, by rw [hAl]; exact HTA.out, fun ad e => by cases e; exact ⟨b, off + i * 2, off, rfl, rfl⟩, HBd.out⟩
    · obtain rfl : cap = i := by omega
      obtain rfl : n = cap := by omega
      have hf : decide (n < n ∧ (trD T n).1 = lw) = false := by simp
      rw [hf]
      have HP := Lib.hid (parts_none (lw := lw) HA.out HFD.out (by omega))
      have HTN := Lib.hid (ts_none (bo := some ⟨b, off, none⟩) (c := 0) hT2d.out n (Nat.le_refl _) (by unfold maxLen; omega))
      have hAl : (T.drop n).length = 0 := by rw [List.length_drop]; omega
      go_wp2_with fail
      refine wp_region_held_drew (S := fun W => Hid (Below w.heap.size w W)) (by kernel_rfl) (HBd) (fun hS => ?_)
      refine wpAnyH_take (i := 0) (oi := { dst := some 16, op := _, type := _, pos := _, after := _, guard := _ }) (v := ?_) rfl (by kernel_rfl) (by kernel_rfl) (by kernel_rfl) (fun _ _ _ h => h) (Or.inl ⟨by rfl, ?_⟩) (by assumption) ?_
      rotate_left
      · intro w hSw
        try dsimp only at hSw
        go_simp
        try with_reducible rfl
      try simp only [Act.put, List.setIfInBounds_toArray, List.set_cons_zero, List.set_cons_succ]
      refine wpAnyH_take (i := 1) (oi := { dst := some 17, op := _, type := _, pos := _, after := _, guard := _ }) (v := ?_) rfl (by kernel_rfl) (by kernel_rfl) (by kernel_rfl) (fun _ _ _ h => h) (Or.inl ⟨by rfl, ?_⟩) (by assumption) ?_
      rotate_left
      · intro w hSw
        try dsimp only at hSw
        go_simp
        try with_reducible rfl
      try simp only [Act.put, List.setIfInBounds_toArray, List.set_cons_zero, List.set_cons_succ]
      refine wpAnyH_take (i := 2) (oi := { dst := some 18, op := _, type := _, pos := _, after := _, guard := _ }) (v := ?_) rfl (by kernel_rfl) (by kernel_rfl) (by kernel_rfl) (fun _ _ _ h => h) (Or.inl ⟨by rfl, ?_⟩) (by assumption) ?_
      rotate_left
      · intro w hSw
        try dsimp only at hSw
        go_simp
        try with_reducible rfl
      try simp only [Act.put, List.setIfInBounds_toArray, List.set_cons_zero, List.set_cons_succ]
      refine wpAnyH_take (i := 3) (oi := { dst := some 19, op := _, type := _, pos := _, after := _, guard := _ }) (v := ?_) rfl (by kernel_rfl) (by kernel_rfl) (by kernel_rfl) (fun _ _ _ h => h) (Or.inl ⟨by rfl, ?_⟩) (by assumption) ?_
      rotate_left
      · intro w hSw
        try dsimp only at hSw
        go_simp
        try with_reducible rfl
      try simp only [Act.put, List.setIfInBounds_toArray, List.set_cons_zero, List.set_cons_succ]
      refine wpAnyH_take (i := 4) (oi := { dst := some 20, op := _, type := _, pos := _, after := _, guard := _ }) (v := ?_) rfl (by kernel_rfl) (by kernel_rfl) (by kernel_rfl) (fun _ _ _ h => h) (Or.inl ⟨by rfl, ?_⟩) (by assumption) ?_
      rotate_left
      · intro w hSw
        try dsimp only at hSw
        go_simp
        try with_reducible rfl
      try simp only [Act.put, List.setIfInBounds_toArray, List.set_cons_zero, List.set_cons_succ]
      refine wpAnyH_take (i := 5) (oi := { dst := some 21, op := _, type := _, pos := _, after := _, guard := _ }) (v := ?_) rfl (by kernel_rfl) (by kernel_rfl) (by kernel_rfl) (fun _ _ _ h => h) (Or.inl ⟨by rfl, ?_⟩) (by assumption) ?_
      rotate_left
      · intro w hSw
        try dsimp only at hSw
        go_simp
        try with_reducible rfl
      try simp only [Act.put, List.setIfInBounds_toArray, List.set_cons_zero, List.set_cons_succ]
      refine wpAnyH_take (i := 6) (oi := { dst := some 22, op := _, type := _, pos := _, after := _, guard := _ }) (v := ?_) rfl (by kernel_rfl) (by kernel_rfl) (by kernel_rfl) (fun _ _ _ h => h) (Or.inl ⟨by rfl, ?_⟩) (by assumption) ?_
      rotate_left
      · intro w hSw
        try dsimp only at hSw
        go_simp
        try with_reducible rfl
      try simp only [Act.put, List.setIfInBounds_toArray, List.set_cons_zero, List.set_cons_succ]
      refine wpAnyH_take (i := 7) (oi := { dst := some 4, op := _, type := _, pos := _, after := _, guard := _ }) (v := ?_) rfl (by kernel_rfl) (by kernel_rfl) (by kernel_rfl) (fun _ _ _ h => h) (Or.inl ⟨by rfl, ?_⟩) (by assumption) ?_
      rotate_left
      · intro w hSw
        try dsimp only at hSw
        go_simp
        try with_reducible rfl
      try simp only [Act.put, List.setIfInBounds_toArray, List.set_cons_zero, List.set_cons_succ]
      refine wpAnyH_take (i := 8) (oi := { dst := some 6, op := _, type := _, pos := _, after := _, guard := _ }) (v := ?_) rfl (by kernel_rfl) (by kernel_rfl) (by kernel_rfl) (fun _ _ _ h => h) (Or.inl ⟨by rfl, ?_⟩) (by assumption) ?_
      rotate_left
      · intro w hSw
        try dsimp only at hSw
        go_simp
        try with_reducible rfl
      try simp only [Act.put, List.setIfInBounds_toArray, List.set_cons_zero, List.set_cons_succ]
      refine wpAnyH_done (by kernel_rfl) ?_ _
      go_wp2_with fail
      go_ret3
      exact ⟨T.take n, [], T.drop n, _, some ⟨b, off, none⟩, 0, by rw [hBl, hAl]; rfl, HP.out, by rw [hBl]; exact HTB.out, by rw [hAl]; exact HTN.out, fun ad e => by cases e; exact ⟨b, off, off, rfl, rfl⟩, HBd.out⟩

end Go.Proofs.YtclfjdnemafmeaaGreatDoor
end

section
/-
  Contracts of attrs.Get, Has, Names, joined and limited. Condition: as Sorted's.
-/
set_option maxRecDepth 100000
set_option linter.unusedVariables false
set_option linter.unusedSimpArgs false
set_option linter.unnecessarySimpa false
namespace Go.Proofs.YtclfjdnemafmeaaGreatDoor
open Go.RowKit Go.PlainAid

theorem parts_vals {l : List At} {T B M A : List Tr} {lw : ByteArray} {hv : Value} (hT : tats T = nf l) (h : Parts T lw B M A hv) {w : World} (hO : TOk w T) : Hdr w hv (vals l lw) := by
  rcases h.mid with ⟨hM, rfl⟩ | ⟨vs, hM⟩
  · have e : vals l lw = [] := by
      refine Classical.not_not.1 fun e => ?_
      have := nf_mem.2 ⟨(rfl : ((lw, vals l lw) : At).2 = vals l (lw, vals l lw).1), e⟩
      rw [← hT] at this
      obtain ⟨t, ht, e2⟩ := List.mem_map.1 this
      have e3 : t.1 = lw := congrArg Prod.fst e2
      rw [h.all, hM, List.append_nil] at ht
      rcases List.mem_append.1 ht with k | k
      · exact cs_ne (h.lo t k) e3
      · exact cs_ne (h.hi t k) e3.symm
    rw [e]; exact hdr_nil w
  · have hm : (lw, hv, vs) ∈ T := by rw [h.all, hM]; simp
    have h2 : (lw, vs) ∈ nf l := by rw [← hT]; exact List.mem_map.2 ⟨_, hm, rfl⟩
    have e := (nf_mem.1 h2).1
    have e' : vs = vals l lw := e
    rw [← e']
    exact hO _ hm
theorem parts_mid {l : List At} {T B M A : List Tr} {lw : ByteArray} {hv : Value} (hT : tats T = nf l) (h : Parts T lw B M A hv) : tats B ++ tats A = wthL l lw := by
  unfold wthL
  rw [← hT, h.all, tats_append, tats_append, List.filter_append, List.filter_append]
  have e1 : (tats B).filter (fun a => decide (a.1 ≠ lw)) = tats B := by
    rw [List.filter_eq_self]
    intro a ha
    obtain ⟨t, ht, rfl⟩ := List.mem_map.1 ha
    exact decide_eq_true (cs_ne (h.lo t ht))
  have e2 : (tats A).filter (fun a => decide (a.1 ≠ lw)) = tats A := by
    rw [List.filter_eq_self]
    intro a ha
    obtain ⟨t, ht, rfl⟩ := List.mem_map.1 ha
    exact decide_eq_true (cs_ne (h.hi t ht)).symm
  have e3 : (tats M).filter (fun a => decide (a.1 ≠ lw)) = [] := by
    rcases h.mid with ⟨hM, _⟩ | ⟨vs, hM⟩
    · rw [hM]; rfl
    · rw [hM]; simp [tats]
  rw [e1, e2, e3, List.append_nil]
theorem nf_names_asc {l : List At} {T : List Tr} (hT : tats T = nf l) : Asc ((tats T).map (·.1)) := by rw [hT]; exact (nf_NF l).asc

set_option maxRecDepth 100000 in
set_option maxHeartbeats 4000000 in
theorem get_s (ao : Option Addr) (n cap : Nat) (l : List At) (name : ByteArray) (w : World) (h : AttrsAt w ao n cap l) (hF : Few l) (hns : name.size ≤ 1000000) :
    Calls Tryz.prog 104 #[.slice ao n cap, .string name] w fun e w' => ∃ v, e = .returned v ∧ Hdr w' v (vals l (lowS name)) ∧ Below w.heap.size w w' := by
  have HR := Lib.hid (sorted_s ao n cap l w h hF)
  have hlen := Nat.le_trans (nf_len l) hF.len
  go_enter Tryz.func104, Tryz.ntmps104
  go_wp2_with fail
  refine HR.out.mono ?_
  rintro e w1 ⟨v, T, rfl, hT, hTO, _, hown, hb⟩
  obtain ⟨hTl, xo, xc, rfl, hat, _, hz, hp⟩ := ts_owns hown
  have HRD := Lib.hid (around_s xo T.length xc T name w1 hat (nf_names_asc hT) (by rw [← tats_len, hT]; exact hlen) hz hp hns)
  have HTO := Lib.hid hTO.ok
  have HB := Lib.hid hb
  have HT := Lib.hid hT
  clear HR h hF hat hTO hb hown hT hlen hz hp hTl
  go_wp2_with fail
  refine HRD.out.mono ?_
  rintro e w2 ⟨B, M, A, hv, bo, c, rfl, hP, _, _, _, hb⟩
  have hH := (parts_vals HT.out hP HTO.out).below hb
  go_wp2_with fail
  go_ret
  exact ⟨_, rfl, hH, HB.out.trans (hb.mono HB.out.size)⟩

theorem contains_mem (l : List ByteArray) (s : ByteArray) : Lib.containsS l s = memB l s := by
  rw [Bool.eq_iff_iff, memB_iff, Lib.containsS_iff]
set_option maxRecDepth 100000 in
set_option maxHeartbeats 4000000 in
theorem names_s (ao : Option Addr) (n cap : Nat) (l : List At) (w : World) (h : AttrsAt w ao n cap l) (hF : Few l) :
    Calls Tryz.prog 103 #[.slice ao n cap] w fun e w' => ∃ v, e = .returned v ∧ Hdr w' v (names l) ∧ Below w.heap.size w w' := by
  have HR := Lib.hid (sorted_s ao n cap l w h hF)
  have hlen := Nat.le_trans (nf_len l) hF.len
  go_enter Tryz.func103, Tryz.ntmps103
  go_wp2_with fail
  refine HR.out.mono ?_
  rintro e w1 ⟨v, T, rfl, hT, hTO, _, hown, hb⟩
  obtain ⟨_, xo, xc, rfl, hat, _⟩ := ts_owns hown
  have HTA := Lib.hid hat
  have HTK := Lib.hid hTO.ok
  have HB := Lib.hid hb
  have HT := Lib.hid hT
  have hTl : T.length ≤ 1000 := by rw [← tats_len, hT]; exact hlen
  have hxc : xc ≤ 9223372036854775807 := hat.2.2.1
  have HNL := Lib.hid (names_tlen hT)
  clear HR h hF hat hTO hb hown hT hlen
  obtain ⟨ns, hns⟩ : ∃ x, names l = x := ⟨_, rfl⟩
  have HNS := Lib.hid hns
  rw [hns] at HNL
  clear hns
  go_wp2_with fail
  go_loopw [3, 5, 9] (fun s3 s5 i wr => ∃ q : Nat, q ≤ T.length ∧ i = .int .i64 q ∧ wr.ownsRow w1.heap.size 9 1 s3 (ns.take q).length (scells (ns.take q)) ∧ Hid (Below w1.heap.size w1 wr)) (fun _ _ i _ => T.length - (intOf i).toNat)
  case atStart => exact ⟨0, Nat.zero_le _, rfl, World.ownsRow_nil _ _ _ _, Lib.hid (Below.refl _ _)⟩
  case round =>
    obtain ⟨q, hq, rfl, hown, HB2⟩ := hrel
    by_cases hlt : q < T.length
    · obtain ⟨b, off, rfl, hblt, _⟩ := HTA.out.2.2.2 (by omega)
      obtain ⟨a0, a1⟩ := ts_at HTA.out q hlt
      have a0 := cell_later HB2.out a0
      have a1 := cell_later HB2.out a1
      have HPN := Lib.hid (names_part HT.out q hlt)
      have hhd := HTK.out _ (tr_mem T q hlt)
      obtain ⟨x, hx⟩ : ∃ x, trD T q = x := ⟨_, rfl⟩
      rw [hx] at a0 a1 HPN hhd
      clear hx
      obtain ⟨p, hd, vs⟩ := x
      simp only [] at a0 a1 HPN hhd
      obtain ⟨ho, hnn, hcc, rfl, _⟩ := hhd
      rw [HNS.out] at HPN
      have HTS := Lib.hid (show ns.take (q + 1) = ns.take q ++ [p] by rw [HPN.out]; exact take_snoc ns q (by have := HNL.out; omega))
      have hql : (ns.take q).length ≤ 1000 := by rw [List.length_take]; omega
      have d1 : (q : Int) < (T.length : Int) := by omega
      have hsz := HB2.out.size
      have X1 := (abox_new wr p (.slice ho hnn hcc)).cells
      obtain ⟨x0, x1⟩ := X1
      have hown1 := hown.alloc (.cells #[.string p, .slice ho hnn hcc] 64)
      have hba : Below w1.heap.size w1 (wr.alloc (.cells #[.string p, .slice ho hnn hcc] 64)) := HB2.out.alloc hsz _
      have hszA := hba.size
      go_wp2_with (at_builtin; go_must (refine push_str (wr.alloc (.cells #[.string p, .slice ho hnn hcc] 64)) hown1 (.tmp 13) (.tmp 16) p ?_ ?_ ?_ ?_ ?_ ?_ ?_; exact rfl; exact rfl; exact rfl; (rw [World.size_alloc]; exact rfl); omega; exact hszA; intro v3 w3 hown3 hb3))
      go_roundw
      case rel => exact ⟨q + 1, by omega, by go_num, by rw [HTS.out, scells_snoc, List.length_append]; exact hown3, Lib.hid (hba.trans hb3)⟩
      case measure => simp [intOf]; omega
    · obtain rfl : T.length = q := by omega
      have HE := Lib.hid (show ns.take T.length = ns from List.take_of_length_le (by rw [HNL.out]; exact Nat.le_refl _))
      go_wp2_with fail
      go_ret
      rw [HE.out] at hown
      exact ⟨_, rfl, by rw [HNS.out]; exact hdr_owns hown, HB.out.trans (HB2.out.mono HB.out.size)⟩

end Go.Proofs.YtclfjdnemafmeaaGreatDoor
end

section
/-
  Plain functions for the escaped forms: which bytes stand as they are, hexadecimal digits, the escaped form and reading it back. No condition.
-/
set_option maxRecDepth 100000
set_option linter.unusedVariables false
set_option linter.unusedSimpArgs false
set_option linter.unnecessarySimpa false
namespace Go.Proofs.YtclfjdnemafmeaaGreatDoor
open Go.PlainAid

def plainI (c : Int) : Bool := decide (33 ≤ c) && decide (c ≤ 126) && !(c == 37) && !(c == 124) && !(c == 44) && !(c == 61) && !(c == 59) && !(c == 34)
def plainC (c : UInt8) : Bool := plainI (c.toNat : Int)
def hexC (d : Nat) : UInt8 := if d < 10 then UInt8.ofNat (48 + d) else UInt8.ofNat (55 + d)
def escC (c : UInt8) : List UInt8 := if plainC c then [c] else [37, hexC (c.toNat / 16), hexC (c.toNat % 16)]
def escL (l : List UInt8) : List UInt8 := l.flatMap escC
def hexS : ByteArray := ⟨#[48, 49, 50, 51, 52, 53, 54, 55, 56, 57, 65, 66, 67, 68, 69, 70]⟩

theorem hexC_table : ∀ d : Nat, d < 16 → bt hexS d = ((hexC d).toNat : Int) := by decide +kernel
theorem escL_snoc (l : List UInt8) (c : UInt8) : escL (l ++ [c]) = escL l ++ escC c := by simp [escL]
theorem escC_length (c : UInt8) : (escC c).length ≤ 3 := by unfold escC; split <;> simp
theorem escL_length (l : List UInt8) : (escL l).length ≤ 3 * l.length := by
  induction l with
  | nil => simp [escL]
  | cons c l ih =>
    have e : escL (c :: l) = escC c ++ escL l := by simp [escL]
    rw [e, List.length_append, List.length_cons]
    have := escC_length c
    omega
theorem escC_plain (c : UInt8) (h : plainC c = true) : escC c = [c] := by unfold escC; rw [if_pos h]
theorem escC_other (c : UInt8) (h : plainC c = false) : escC c = [37, hexC (c.toNat / 16), hexC (c.toNat % 16)] := by unfold escC; rw [if_neg (by simp [h])]

theorem hex_hi (x : Int) (c : UInt8) (h : x = (c.toNat : Int)) : bt (⟨#[48, 49, 50, 51, 52, 53, 54, 55, 56, 57, 65, 66, 67, 68, 69, 70]⟩ : ByteArray) (x / 16).toNat = ((hexC (c.toNat / 16)).toNat : Int) := by
  have hc := c.toNat_lt
  have e : (x / 16).toNat = c.toNat / 16 := by omega
  rw [e]
  exact hexC_table _ (by omega)
theorem hex_lo (x : Int) (c : UInt8) (h : x = (c.toNat : Int)) : bt (⟨#[48, 49, 50, 51, 52, 53, 54, 55, 56, 57, 65, 66, 67, 68, 69, 70]⟩ : ByteArray) (x % 16).toNat = ((hexC (c.toNat % 16)).toNat : Int) := by
  have e : (x % 16).toNat = c.toNat % 16 := by omega
  rw [e]
  exact hexC_table _ (by omega)
/-- byte k of a string -/
def chr (s : ByteArray) (k : Nat) : UInt8 := s.data.toList.getD k 0
theorem bt_chr (s : ByteArray) (k : Nat) : bt s k = ((chr s k).toNat : Int) := by
  unfold chr
  by_cases h : k < s.size
  · rw [bt_at s k h, List.getD_eq_getElem?_getD, List.getElem?_eq_getElem (by simpa using h)]; rfl
  · rw [bt_end s (by omega), List.getD_eq_getElem?_getD, List.getElem?_eq_none (by rw [← Lib.size_eq]; omega)]; rfl
theorem take_chr (s : ByteArray) (k : Nat) (h : k < s.size) : s.data.toList.take (k + 1) = s.data.toList.take k ++ [chr s k] := by
  rw [take_succ s k h]; unfold chr; rw [List.getD_eq_getElem?_getD, List.getElem?_eq_getElem (by simpa using h)]; rfl
theorem esc_step (s : ByteArray) (k : Nat) (h : k < s.size) : escL (s.data.toList.take (k + 1)) = escL (s.data.toList.take k) ++ escC (chr s k) := by rw [take_chr s k h, escL_snoc]
theorem plain_chr (s : ByteArray) (k : Nat) : plainC (chr s k) = plainI (bt s k) := by unfold plainC; rw [bt_chr]

end Go.Proofs.YtclfjdnemafmeaaGreatDoor
end

section
/-
  Plain functions for reading escaped forms. No condition.
-/
set_option maxRecDepth 100000
set_option linter.unusedVariables false
set_option linter.unusedSimpArgs false
set_option linter.unnecessarySimpa false
namespace Go.Proofs.YtclfjdnemafmeaaGreatDoor
open Go.PlainAid

/-- the value of a hexadecimal digit, or -1 -/
def hexV (c : UInt8) : Int := Lib.indexByte hexS.data.toList c
theorem hexV_range : ∀ n : Nat, n < 256 → -1 ≤ hexV (UInt8.ofNat n) ∧ hexV (UInt8.ofNat n) ≤ 15 := by decide +kernel
theorem hexV_le (c : UInt8) : -1 ≤ hexV c ∧ hexV c ≤ 15 := by
  have := hexV_range c.toNat c.toNat_lt
  rwa [UInt8.ofNat_toNat] at this
/-- the byte with two hexadecimal digits, unless it stands as it is -/
def decC (a b : UInt8) : Option UInt8 :=
  if hexV a < 0 ∨ hexV b < 0 then none else if plainI (16 * hexV a + hexV b) then none else some (UInt8.ofNat (16 * hexV a + hexV b).toNat)
def unesc : List UInt8 → Option (List UInt8)
  | [] => some []
  | c :: r => if c = 37 then (match r with
      | a :: b :: r' => match decC a b with
        | some d => (unesc r').map (d :: ·)
        | none => none
      | _ => none) else if plainC c then (unesc r).map (c :: ·) else none
/-- what 'escaped' returns -/
def escO (t : ByteArray) : Option UInt8 := if t.size < 2 then none else decC (chr t 0) (chr t 1)

theorem drop_chr (s : ByteArray) (i : Nat) (h : i < s.size) : s.data.toList.drop i = chr s i :: s.data.toList.drop (i + 1) := by
  unfold chr
  rw [List.getD_eq_getElem?_getD, List.getElem?_eq_getElem (by simpa using h)]
  exact List.drop_eq_getElem_cons (by simpa using h)
theorem chr_dr (s : ByteArray) (i j : Nat) : chr (dr s i) j = chr s (i + j) := by
  unfold chr dr
  rw [List.toList_toArray, List.getD_eq_getElem?_getD, List.getD_eq_getElem?_getD, List.getElem?_drop]
theorem unesc_pct (s : ByteArray) (i : Nat) (h : i < s.size) (h37 : chr s i = 37) : unesc (s.data.toList.drop i) = match escO (dr s (i + 1)) with
    | some d => (unesc (s.data.toList.drop (i + 3))).map (d :: ·)
    | none => none := by
  rw [drop_chr s i h]
  conv => lhs; unfold unesc
  rw [if_pos h37]
  unfold escO
  rw [dr_size]
  by_cases h2 : s.size - (i + 1) < 2
  · rw [if_pos h2]
    have hl : (s.data.toList.drop (i + 1)).length < 2 := by rw [List.length_drop, ← Lib.size_eq]; exact h2
    match e : s.data.toList.drop (i + 1), hl with
    | [], _ => rfl
    | [x], _ => rfl
  · rw [if_neg h2, drop_chr s (i + 1) (by omega), drop_chr s (i + 1 + 1) (by omega), chr_dr, chr_dr]

end Go.Proofs.YtclfjdnemafmeaaGreatDoor
end

section
/-
  The shelf of this seat lies in one text. No condition.
-/
set_option maxRecDepth 100000
set_option linter.unusedVariables false
namespace Go.Proofs.YtclfjdnemafmeaaGreatDoor

end Go.Proofs.YtclfjdnemafmeaaGreatDoor
end
