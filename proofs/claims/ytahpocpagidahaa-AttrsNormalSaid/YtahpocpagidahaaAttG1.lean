/-
  Arguments of the laws, opened with the form's own reach; contracts of the laws' guards short and few. No condition.
-/
import Derived.Test.YtahpocpagidahaaAttP12
import Derived.Test.YtahpocpagidahaaAttP9
import Derived.Test.YtahpocpagidahaaAttP8
import Derived.SizedLaws
set_option linter.unusedVariables false
set_option linter.unusedSimpArgs false
set_option linter.unnecessarySimpa false
namespace Go.Proofs.Ytahpocpagidahaa
open Go.ChangeShapes Go.WideShapes Go.ChangeAt Go.RowKit Go.PlainAid

def RS (l : List ByteArray) : Prop := ∀ v ∈ l, v.size ≤ 140737488355328
def RA (l : List At) : Prop := ∀ a ∈ l, a.1.size ≤ 140737488355328 ∧ RS a.2
theorem wall_mem {H : Type} {P : Program} {e : TypeId} {d : DataW H} {n : Nat} : ∀ {l : List (DataW H)}, d ∈ l → n ∈ d.weights P e → n ∈ DataW.weightsAll P e l
  | x :: l, h, hn => by
    simp only [DataW.weightsAll, List.mem_append]
    rcases List.mem_cons.1 h with k | k
    · subst k; exact .inl hn
    · exact .inr (wall_mem k hn)
theorem slice_mem {H : Type} {P : Program} {t e : TypeId} {d : DataW H} {n : Nat} {el sp : List (DataW H)} (hu : P.underlying t = some (.slice e)) (h : d ∈ el) (hn : n ∈ d.weights P e) : n ∈ (DataW.slice el sp).weights P t := by
  simp only [DataW.weights, hu, List.mem_cons, List.mem_append]
  exact .inr (.inl (wall_mem h hn))
theorem reach_le {n : Nat} (h : n ≤ reachBytes) : n ≤ 140737488355328 := Nat.le_trans h (Nat.le_of_lt (Nat.lt_of_lt_of_eq reachBytes_lt (by decide)))
theorem str_len (s : ByteArray) : s.data.toList.length = s.size := by rw [Array.length_toList]; rfl
theorem strs_reach {H : Type} {ss : List ByteArray} {sp : List (DataW H)} (hz : ∀ n ∈ (DataW.slice (strs ss) sp).weights Try.prog 29, n ≤ reachBytes) : RS ss := by
  intro v hv
  refine reach_le (hz _ (slice_mem Try.underlying29 (d := .lit (.string v.data.toList)) (List.mem_map.2 ⟨v, hv, rfl⟩) ?_))
  simp only [DataW.weights, List.mem_singleton]
  exact (str_len v).symm
set_option maxRecDepth 100000 in
theorem trod_strsR {H : Type} {enc : TypeId × Value → H} {W : World} {v : Value} {x : DataW H × List MemPlace} {fuel : Nat}
    (hf : DataW.trod enc Try.prog W 0 (fun _ => true) true fuel 29 [v] = some x) (hz : ∀ n ∈ x.1.weights Try.prog 29, n ≤ reachBytes) : ∃ ao n cap ps, v = .slice ao n cap ∧ StrsAt W ao n cap ps ∧ RS ps := by
  rcases open_strings Try.underlying29 Try.underlying9 cells_string hf with ⟨hcs, hx⟩ | ⟨a, len, cap, ss, hcs, _, hl, hm, hzz, hx, hcell, hws⟩
  · injection hcs with h1 _
    exact ⟨none, 0, 0, [], h1, ⟨rfl, Nat.le_refl _, by unfold maxLen; omega, fun h => absurd h (by omega)⟩, fun v hv => (List.not_mem_nil hv).elim⟩
  · injection hcs with h1 _
    simp only [if_true] at hzz
    subst hx
    refine ⟨_, len, cap, ss.take len, h1, ⟨by rw [List.length_take]; omega, hl, hm, fun hn => ?_⟩, strs_reach hz⟩
    obtain ⟨b, off, spot⟩ := a
    have hspot : spot = none := by simpa [Addr.add] using World.cell?_spot (hcell 0 (by omega))
    subst hspot
    have h1 := hcell 0 (by omega)
    rw [add_plain] at h1
    refine ⟨b, off, rfl, World.block_lt_of_cell? W _ h1, fun j hj => ?_⟩
    rw [List.length_take] at hj
    rw [← add_plain, hcell j (by omega)]
    unfold partAt
    rw [List.getD_eq_getElem?_getD, List.getD_eq_getElem?_getD, List.getElem?_take, if_pos (by omega)]
theorem open_strsR {H : Type} {enc : TypeId × Value → H} {W : World} {base : Nat} {v : Value} {d : DataW H} {p : List MemPlace} (hval : Value.okWide Try.prog W .any base 29 v)
    (h0 : DataW.Trod enc Try.prog W 0 (fun _ => true) true 29 v d p) (hz : ∀ n ∈ d.weights Try.prog 29, n ≤ reachBytes) : ∃ ao n cap ps, v = .slice ao n cap ∧ StrsAt W ao n cap ps ∧ RS ps := by
  obtain ⟨a0, len, cap, rfl⟩ := okWide_slice Try.underlying29 hval
  obtain ⟨fuel, hf⟩ := h0
  have hf' : DataW.trod enc Try.prog W 0 (fun _ => true) true fuel 29 [.slice a0 len cap] = some (d, p) := by simpa [Value.cells] using hf
  exact trod_strsR hf' hz
theorem choose_attrsR {w : World} {b off len : Nat} {Q : At → Prop} (h : ∀ i, i < len → ∃ a : At, AttAt w b (off + i * 2) a ∧ Q a) : ∃ l : List At, l.length = len ∧ (∀ i, i < len → AttAt w b (off + i * 2) (atD l i)) ∧ ∀ a ∈ l, Q a := by
  induction len with
  | zero => exact ⟨[], rfl, fun i hi => absurd hi (Nat.not_lt_zero _), fun a ha => (List.not_mem_nil ha).elim⟩
  | succ n ih =>
    obtain ⟨l, hl, hp, hq⟩ := ih (fun i hi => h i (by omega))
    obtain ⟨a, ha, hqa⟩ := h n (by omega)
    refine ⟨l ++ [a], by simp [hl], fun i hi => ?_, fun x hx => (List.mem_append.1 hx).elim (hq x) fun k => by rw [List.mem_singleton.1 k]; exact hqa⟩
    by_cases e : i = n
    · subst e
      have e2 : atD (l ++ [a]) i = a := by
        unfold atD
        rw [List.getD_eq_getElem?_getD, List.getElem?_append_right (by omega), hl]; simp
      rw [e2]; exact ha
    · have e2 : atD (l ++ [a]) i = atD l i := by
        unfold atD
        rw [List.getD_eq_getElem?_getD, List.getD_eq_getElem?_getD, List.getElem?_append_left (by omega)]
      rw [e2]; exact hp i (by omega)
set_option maxRecDepth 100000 in
theorem open_attrsR {H : Type} {enc : TypeId × Value → H} {W : World} {base : Nat} {v : Value} {d : DataW H} {p : List MemPlace} (hval : Value.okWide Try.prog W .any base 22 v)
    (h0 : DataW.Trod enc Try.prog W 0 (fun _ => true) true 22 v d p) (hz : ∀ n ∈ d.weights Try.prog 22, n ≤ reachBytes) : ∃ ao n cap l, v = .slice ao n cap ∧ AttrsAt W ao n cap l ∧ RA l := by
  obtain ⟨a0, len, cap, rfl⟩ := okWide_slice Try.underlying22 hval
  obtain ⟨fuel, hf⟩ := h0
  rcases Go.Deep.open_slice_pairs Try.underlying22 Try.underlying42 cells_attr rfl rfl (by kernel_rfl) (by kernel_rfl) hf with ⟨hcs, hx⟩ | ⟨a, len', cap', m, n, V0, V1, D0, D1, P0, P1, hcs, _, hl, hm, hmm, hx, hcell⟩
  · simp [Value.cells] at hcs
    obtain ⟨rfl, rfl, rfl⟩ := hcs
    exact ⟨none, 0, 0, [], rfl, ⟨rfl, Nat.le_refl _, by unfold maxLen; omega, fun h => absurd h (by omega)⟩, fun a ha => (List.not_mem_nil ha).elim⟩
  · simp [Value.cells] at hcs
    obtain ⟨rfl, rfl, rfl⟩ := hcs
    simp only [if_true] at hmm
    rw [hmm] at hcell
    by_cases hn : 0 < len
    · obtain ⟨b, off, spot⟩ := a
      have h1 := (hcell 0 (by omega)).1
      have hspot : spot = none := by simpa [Addr.add] using World.cell?_spot h1
      subst hspot
      have hb : b < W.heap.size := by
        rw [add_plain] at h1
        exact World.block_lt_of_cell? W _ h1
      have hd : d = .slice ((List.range len).map fun i => .agg [D0 i, D1 i]) ((List.range (m - len)).map fun j => .agg [D0 (len + j), D1 (len + j)]) := congrArg Prod.fst hx
      obtain ⟨l, hpl, hps, hq⟩ := choose_attrsR (w := W) (b := b) (off := off) (len := len) (Q := fun a => a.1.size ≤ 140737488355328 ∧ RS a.2) (fun i hi => by
        obtain ⟨c0, c1, t0, t1⟩ := hcell i (by omega)
        rw [add_plain] at c0 c1
        have hw : ∀ n, n ∈ (DataW.agg [D0 i, D1 i]).weights Try.prog 42 → n ≤ reachBytes := fun n hn => hz n (by
          rw [hd]
          exact slice_mem Try.underlying22 (List.mem_map.2 ⟨i, List.mem_range.2 hi, rfl⟩) hn)
        have hw0 : ∀ n, n ∈ (D0 i).weights Try.prog 9 → n ≤ reachBytes := fun n hn => hw n (by
          simp only [DataW.weights, Try.underlying42, DataW.weightsEach, List.map_cons, List.map_nil, List.mem_append]
          exact .inl hn)
        have hw1 : ∀ n, n ∈ (D1 i).weights Try.prog 29 → n ≤ reachBytes := fun n hn => hw n (by
          simp only [DataW.weights, Try.underlying42, DataW.weightsEach, List.map_cons, List.map_nil, List.mem_append]
          exact .inr (.inl hn))
        obtain ⟨s0, e0, ed, _⟩ := DataW.trod_string Try.underlying9 t0
        simp only [List.cons.injEq, and_true] at e0
        have ed0 : D0 i = .lit (.string s0.data.toList) := congrArg Prod.fst ed
        obtain ⟨aj, nj, cj, ps, e1, hs, hr⟩ := trod_strsR t1 hw1
        rw [e0] at c0
        rw [e1, ← Nat.add_assoc] at c1
        refine ⟨(s0, ps), ⟨c0, aj, nj, cj, c1, hs⟩, ?_, hr⟩
        rw [ed0] at hw0
        refine reach_le (hw0 _ ?_)
        simp only [DataW.weights, List.mem_singleton]
        exact (str_len s0).symm)
      exact ⟨_, len, cap, l, rfl, ⟨hpl, hl, hm, fun _ => ⟨b, off, rfl, hb, hps⟩⟩, hq⟩
    · exact ⟨_, len, cap, [], rfl, ⟨by simp; omega, hl, hm, fun h => absurd h hn⟩, fun a ha => (List.not_mem_nil ha).elim⟩

/-- how many bytes there are in strings, in attributes -/
def sumS (l : List ByteArray) : Nat := (l.map ByteArray.size).sum
def sumB (l : List At) : Nat := (l.map fun a => a.1.size + sumS a.2).sum
theorem sumS_take (l : List ByteArray) (k : Nat) (h : k < l.length) : sumS (l.take (k + 1)) = sumS (l.take k) + (partAt l k).size := by
  unfold sumS
  rw [take_snoc l k h, List.map_append, List.sum_append]; simp
theorem sumB_take (l : List At) (k : Nat) (h : k < l.length) : sumB (l.take (k + 1)) = sumB (l.take k) + ((atD l k).1.size + sumS (atD l k).2) := by
  unfold sumB
  rw [at_take l k h, List.map_append, List.sum_append]; simp
theorem sumV_snoc (l : List At) (k : Nat) (h : k < l.length) : sumV (l.take (k + 1)) = sumV (l.take k) + (atD l k).2.length := by
  unfold sumV
  rw [at_take l k h, List.map_append, List.sum_append]; simp
theorem sumS_mem {v : ByteArray} : ∀ {l : List ByteArray}, v ∈ l → v.size ≤ sumS l
  | x :: l, h => by
    unfold sumS
    rw [List.map_cons, List.sum_cons]
    rcases List.mem_cons.1 h with k | k
    · rw [k]; omega
    · have := sumS_mem k; unfold sumS at this; omega
theorem sumB_mem {a : At} : ∀ {l : List At}, a ∈ l → a.1.size + sumS a.2 ≤ sumB l
  | x :: l, h => by
    unfold sumB
    rw [List.map_cons, List.sum_cons]
    rcases List.mem_cons.1 h with k | k
    · rw [k]; omega
    · have := sumB_mem k; unfold sumB at this; omega
theorem sumS_reach {l : List ByteArray} (h : RS l) : ∀ k, k ≤ l.length → sumS (l.take k) ≤ k * 140737488355328
  | 0, _ => by simp [sumS]
  | k + 1, hk => by
    rw [sumS_take l k (by omega)]
    have h1 := sumS_reach h k (by omega)
    have h2 := h _ (part_mem l k (by omega))
    omega
structure Good (l : List At) : Prop where
  len : l.length ≤ 40
  vals : sumV l ≤ 300
  bytes : sumB l ≤ 6000
structure GoodS (l : List ByteArray) : Prop where
  len : l.length ≤ 20
  bytes : sumS l ≤ 3000
theorem Good.small {l : List At} (h : Good l) : SmallA l := fun a ha => by
  have h1 := sumB_mem ha
  have h2 := h.bytes
  exact ⟨by omega, fun v hv => by have := sumS_mem hv; omega⟩
theorem Good.few {l : List At} (h : Good l) : Few l := ⟨h.small, by have := h.vals; omega, by have := h.len; omega⟩
theorem GoodS.small {l : List ByteArray} (h : GoodS l) : SmallS l := fun v hv => by have := sumS_mem hv; have := h.bytes; omega
theorem Good.edit {l : List At} {vs : List ByteArray} (h : Good l) (k : GoodS vs) : Edit l vs := ⟨h.small, by have := h.vals; omega, by have := h.len; omega, k.small, by have := k.len; omega⟩

/-- what a guard answers: true only where G holds -/
structure Guards (G : Prop) (w : World) (e : Ending) (w' : World) : Prop where
  ans : ∃ b : Bool, e = .returned (.bool b) ∧ (b = true → G) ∧ w' = w
theorem guard_no {G : Prop} {w : World} : Guards G w (.returned (.bool false)) w := ⟨⟨false, rfl, (fun e => by cases e), rfl⟩⟩
theorem guard_yes {G : Prop} {w : World} (h : G) : Guards G w (.returned (.bool true)) w := ⟨⟨true, rfl, fun _ => h, rfl⟩⟩
set_option maxRecDepth 100000 in
set_option maxHeartbeats 4000000 in
theorem few_s (ao : Option Addr) (n cap : Nat) (l : List ByteArray) (w : World) (h : StrsAt w ao n cap l) (hR : RS l) :
    Calls Try.prog 19 #[.slice ao n cap] w fun e w' => Guards (GoodS l) w e w' := by
  obtain ⟨h1, h2, h3, h4⟩ := h
  subst h1
  unfold maxLen at h3
  have H4 := Lib.hid h4; clear h4
  have HR := Lib.hid hR; clear hR
  go_enter Try.func19, Try.ntmps19
  go_wp2
  go_loop [3, 4] (fun s3 i => ∃ k : Nat, k ≤ l.length ∧ k ≤ 20 ∧ i = .int .i64 k ∧ s3 = .int .i64 (sumS (l.take k) : Nat)) (fun _ i => 20 - (intOf i).toNat)
  case atStart => exact ⟨0, Nat.zero_le _, Nat.zero_le _, rfl, rfl⟩
  case round =>
    obtain ⟨k, hk, hk2, rfl, rfl⟩ := hrel
    have hb := sumS_reach HR.out k hk
    by_cases hlt : k < l.length
    · have d1 : decide ((k : Int) < (l.length : Int)) = true := decide_eq_true (by omega)
      by_cases hl2 : k < 20
      · have d2 : decide ((k : Int) < (20 : Int)) = true := decide_eq_true (by omega)
        obtain ⟨b, off, rfl, hs⟩ := H4.out (by omega)
        have hcell := hs.2 k hlt
        clear hs
        have HST := Lib.hid (sumS_take l k hlt)
        have hps := HR.out _ (part_mem l k hlt)
        obtain ⟨p, hp⟩ : ∃ x, partAt l k = x := ⟨_, rfl⟩
        rw [hp] at hcell HST hps
        clear hp
        obtain ⟨S, hS⟩ : ∃ x, sumS (l.take k) = x := ⟨_, rfl⟩
        rw [hS] at hb HST
        rw [hS]
        clear hS
        have d3 : (k : Int) < (l.length : Int) := by omega
        go_wp2_with fail
        go_round
        case rel => exact ⟨k + 1, by omega, by omega, by go_num, by rw [HST.out]; go_num⟩
        case measure => simp [intOf]; omega
      · have d2 : decide ((k : Int) < (20 : Int)) = false := decide_eq_false (by omega)
        have d3 : decide ((l.length : Int) ≤ (20 : Int)) = false := decide_eq_false (by omega)
        go_wp2_with fail
        go_ret
        exact guard_no
    · obtain rfl : l.length = k := by omega
      have d1 : decide ((l.length : Int) < (l.length : Int)) = false := decide_eq_false (by omega)
      have d3 : decide ((l.length : Int) ≤ (20 : Int)) = true := decide_eq_true (by omega)
      have HTL := Lib.hid (show l.take l.length = l from List.take_length)
      rw [HTL.out]
      by_cases h5 : sumS l ≤ 3000
      · have d4 : decide (((sumS l : Nat) : Int) ≤ (3000 : Int)) = true := decide_eq_true (by omega)
        have HG := Lib.hid (show GoodS l from ⟨hk2, h5⟩)
        go_wp2_with fail
        go_ret
        exact guard_yes HG.out
      · have d4 : decide (((sumS l : Nat) : Int) ≤ (3000 : Int)) = false := decide_eq_false (by omega)
        go_wp2_with fail
        go_ret
        exact guard_no

theorem sumB_reach {l : List At} (h : RA l) : ∀ k, k ≤ l.length → (∀ j, j < k → (atD l j).2.length ≤ 20) → sumB (l.take k) ≤ k * (21 * 140737488355328) ∧ sumV (l.take k) ≤ k * 20
  | 0, _, _ => by simp [sumB, sumV]
  | k + 1, hk, hv => by
    rw [sumB_take l k (by omega), sumV_snoc l k (by omega)]
    obtain ⟨h1, h2⟩ := sumB_reach h k (by omega) (fun j hj => hv j (by omega))
    obtain ⟨h3, h4⟩ := h _ (at_mem l k (by omega))
    have h5 := hv k (by omega)
    have h6 := sumS_reach h4 _ (Nat.le_refl _)
    rw [List.take_length] at h6
    have h7 : (atD l k).2.length * 140737488355328 ≤ 20 * 140737488355328 := Nat.mul_le_mul_right _ h5
    omega
set_option maxRecDepth 100000 in
set_option maxHeartbeats 4000000 in
theorem short_s (ao : Option Addr) (n cap : Nat) (l : List At) (w : World) (h : AttrsAt w ao n cap l) (hR : RA l) :
    Calls Try.prog 10 #[.slice ao n cap] w fun e w' => Guards (Good l) w e w' := by
  obtain ⟨h1, h2, h3, h4⟩ := h
  subst h1
  unfold maxLen at h3
  have H4 := Lib.hid h4; clear h4
  have HR := Lib.hid hR; clear hR
  go_enter Try.func10, Try.ntmps10
  go_wp2
  go_loop [3, 4, 5, 6] (fun s3 s4 i s6 => ∃ k : Nat, k ≤ l.length ∧ k ≤ 40 ∧ i = .int .i64 k ∧ Hid (∀ j, j < k → (atD l j).2.length ≤ 20) ∧ s3 = .int .i64 (sumV (l.take k) : Nat) ∧ s4 = .int .i64 (sumB (l.take k) : Nat)) (fun _ _ i _ => 40 - (intOf i).toNat)
  case atStart => exact ⟨0, Nat.zero_le _, Nat.zero_le _, rfl, Lib.hid (fun j hj => absurd hj (Nat.not_lt_zero _)), rfl, rfl⟩
  case round =>
    obtain ⟨k, hk, hk2, rfl, HV, rfl, rfl⟩ := hrel
    obtain ⟨hb, hbv⟩ := sumB_reach HR.out k hk HV.out
    by_cases hlt : k < l.length
    · have d1 : decide ((k : Int) < (l.length : Int)) = true := decide_eq_true (by omega)
      by_cases hl2 : k < 40
      · have d2 : decide ((k : Int) < (40 : Int)) = true := decide_eq_true (by omega)
        obtain ⟨b, off, rfl, hblt, hat⟩ := H4.out (by omega)
        obtain ⟨c0, vo, vn, vc, c1, hvs⟩ := hat k hlt
        have HSB := Lib.hid (sumB_take l k hlt)
        have HSV := Lib.hid (sumV_snoc l k hlt)
        obtain ⟨hps, hrs⟩ := HR.out _ (at_mem l k hlt)
        have HVN := Lib.hid (fun (e : (atD l k).2.length ≤ 20) j (hj : j < k + 1) => if h : j = k then (by rw [h]; exact e : (atD l j).2.length ≤ 20) else HV.out j (by omega))
        obtain ⟨a, ha⟩ : ∃ x, atD l k = x := ⟨_, rfl⟩
        rw [ha] at c0 hvs HSB HSV hps hrs HVN
        clear ha hat
        obtain ⟨p, vs⟩ := a
        simp only [] at c0 hvs HSB HSV hps hrs HVN
        obtain ⟨S, hS⟩ : ∃ x, sumB (l.take k) = x := ⟨_, rfl⟩
        obtain ⟨V, hV⟩ : ∃ x, sumV (l.take k) = x := ⟨_, rfl⟩
        rw [hS] at hb HSB
        rw [hV] at hbv HSV
        rw [hS, hV]
        clear hS hV
        have hvl : vs.length = vn := hvs.1
        have HVS := Lib.hid hvs.2.2.2
        have HRS := Lib.hid hrs
        clear hvs hrs
        have d3 : (k : Int) < (l.length : Int) := by omega
        have d3' : (0 : Int) ≤ (k : Int) := by omega
        by_cases h20 : 20 < vn
        · have d4 : decide ((20 : Int) < (vn : Int)) = true := decide_eq_true (by omega)
          go_wp2_with fail
          go_ret
          exact guard_no
        · have d4 : decide ((20 : Int) < (vn : Int)) = false := decide_eq_false (by omega)
          have HV2 := Lib.hid (HVN.out (by omega))
          go_wp2_with fail
          go_loop [4, 6] (fun s4 i => ∃ j : Nat, j ≤ vn ∧ i = .int .i64 j ∧ s4 = .int .i64 ((S + p.size + sumS (vs.take j) : Nat) : Int)) (fun _ i => vn - (intOf i).toNat)
          case atStart => exact ⟨0, Nat.zero_le _, rfl, by go_num⟩
          case round =>
            obtain ⟨j, hj, rfl, rfl⟩ := hrel
            have hbs := sumS_reach HRS.out j (by omega)
            by_cases hlj : j < vn
            · obtain ⟨vb, voff, rfl, hvb⟩ := HVS.out (by omega)
              have hcell := hvb.2 j (by omega)
              clear hvb
              have HSS := Lib.hid (sumS_take vs j (by omega))
              have hqs := HRS.out _ (part_mem vs j (by omega))
              obtain ⟨q, hq⟩ : ∃ x, partAt vs j = x := ⟨_, rfl⟩
              rw [hq] at hcell HSS hqs
              clear hq
              obtain ⟨Z, hZ⟩ : ∃ x, sumS (vs.take j) = x := ⟨_, rfl⟩
              rw [hZ] at hbs HSS
              rw [hZ]
              clear hZ
              have d5 : (j : Int) < (vn : Int) := by omega
              go_wp2_with fail
              go_round
              case rel => exact ⟨j + 1, by omega, by go_num, by rw [HSS.out]; go_num⟩
              case measure => simp [intOf]; omega
            · obtain rfl : vn = j := by omega
              have HE := Lib.hid (show S + p.size + sumS (vs.take vn) = sumB (l.take (k + 1)) by rw [HSB.out, List.take_of_length_le (by omega)]; omega)
              rw [HE.out]
              go_wp2_with fail
              go_round
              case rel => exact ⟨k + 1, by omega, by omega, by go_num, HV2, by rw [HSV.out, hvl]; go_num, rfl⟩
              case measure => simp [intOf]; omega
      · have d2 : decide ((k : Int) < (40 : Int)) = false := decide_eq_false (by omega)
        have d3 : decide ((l.length : Int) ≤ (40 : Int)) = false := decide_eq_false (by omega)
        go_wp2_with fail
        go_ret
        exact guard_no
    · obtain rfl : l.length = k := by omega
      have d1 : decide ((l.length : Int) < (l.length : Int)) = false := decide_eq_false (by omega)
      have d3 : decide ((l.length : Int) ≤ (40 : Int)) = true := decide_eq_true (by omega)
      have HTL := Lib.hid (show l.take l.length = l from List.take_length)
      rw [HTL.out]
      by_cases h4 : sumV l ≤ 300
      · have d4 : decide (((sumV l : Nat) : Int) ≤ (300 : Int)) = true := decide_eq_true (by omega)
        by_cases h5 : sumB l ≤ 6000
        · have d5 : decide (((sumB l : Nat) : Int) ≤ (6000 : Int)) = true := decide_eq_true (by omega)
          have HG := Lib.hid (show Good l from ⟨hk2, h4, h5⟩)
          go_wp2_with fail
          go_ret
          exact guard_yes HG.out
        · have d5 : decide (((sumB l : Nat) : Int) ≤ (6000 : Int)) = false := decide_eq_false (by omega)
          go_wp2_with fail
          go_ret
          exact guard_no
      · have d4 : decide (((sumV l : Nat) : Int) ≤ (300 : Int)) = false := decide_eq_false (by omega)
        go_wp2_with fail
        go_ret
        exact guard_no

end Go.Proofs.Ytahpocpagidahaa
