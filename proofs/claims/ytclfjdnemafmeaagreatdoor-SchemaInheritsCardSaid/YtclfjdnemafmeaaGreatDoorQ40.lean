/-
  Texts of the schema layer, joined: SchVdR, SchInh, SchEnt. Conditions stand at each contract.
-/
import Derived.Test.YtclfjdnemafmeaaGreatDoorQ24
import Derived.Test.YtclfjdnemafmeaaGreatDoorQ25
import Derived.Test.YtclfjdnemafmeaaGreatDoorQ27
set_option linter.unusedVariables false
set_option linter.unusedSimpArgs false
set_option linter.unnecessarySimpa false

section
/-
  Contract of the specification's Valid. Condition: an entry that light accepts.
-/
set_option maxRecDepth 100000
namespace Go.Proofs.YtclfjdnemafmeaaGreatDoor
open Go.RowKit Go.PlainAid
theorem LightE.fewE {l : List At} (h : LightE l) : FewE l :=
  ⟨h.few, fun a ha => by have := (h.each a ha).len; omega, ⟨by have h1 := vals_len l (lowS classN); have h2 := h.few.vals; omega, vals_small h.small _⟩, by have h1 := names_len l; have h2 := h.len; omega⟩
/-- the boxes of Valid: the schema, the entry -/
structure VB (w W : World) (to : Option Addr) (tn tc : Nat) (co : Option Addr) (cn cc : Nat) (en : ByteArray) (ao : Option Addr) (n cap : Nat) : Prop where
  s : Kb W w.heap.size (.cells #[.slice to tn tc, .slice co cn cc] 25)
  e : Kb W (w.heap.size + 1) (.cells #[.string en, .slice ao n cap] 48)
  low : Below w.heap.size w W
theorem VB.step {w W V : World} {to : Option Addr} {tn tc : Nat} {co : Option Addr} {cn cc : Nat} {en : ByteArray} {ao : Option Addr} {n cap : Nat} (h : VB w W to tn tc co cn cc en ao n cap) (hb : Below W.heap.size W V) : VB w V to tn tc co cn cc en ao n cap :=
  ⟨h.s.step hb, h.e.step hb, h.low.trans (hb.mono h.low.size)⟩
theorem VB.cells {w W : World} {to : Option Addr} {tn tc : Nat} {co : Option Addr} {cn cc : Nat} {en : ByteArray} {ao : Option Addr} {n cap : Nat} (h : VB w W to tn tc co cn cc en ao n cap) :
    W.cell? ⟨w.heap.size, 0, none⟩ = some (.slice to tn tc) ∧ W.cell? ⟨w.heap.size, 1, none⟩ = some (.slice co cn cc) ∧ W.cell? ⟨w.heap.size + 1, 1, none⟩ = some (.slice ao n cap) := ⟨h.s.cell rfl, h.s.cell rfl, h.e.cell rfl⟩
end Go.Proofs.YtclfjdnemafmeaaGreatDoor
end


section
/-
  Pure facts of P7.2, P7.5, P7.9: what classes inherit, what a valid entry holds, that names in upper case change nothing. No condition.
-/
set_option maxRecDepth 100000
namespace Go.Proofs.YtclfjdnemafmeaaGreatDoor
open Go.RowKit Go.PlainAid
/-! ### classes -/
theorem must_may (cs : List Cl) (n : ByteArray) : ∀ s ∈ mustS cs n, s ∈ mayS cs n := fun s hs => by
  unfold mustS at hs
  unfold mayS
  rw [sortU_mem] at hs ⊢
  obtain ⟨c, hc, hx⟩ := List.mem_flatMap.1 hs
  exact List.mem_flatMap.2 ⟨c, hc, by rw [List.map_append]; exact List.mem_append_left _ hx⟩
theorem cl_self {cs : List Cl} (h : SoundC cs) {j : Nat} (hj : j < cs.length) : clOf cs (clAt cs j).name = some (clAt cs j) := cl_hit hj (h j hj).2.1 rfl
theorem line_super {cs : List Cl} (h : SoundC cs) {j : Nat} (hj : j < cs.length) : ∀ c ∈ lineS cs (clAt cs j).super, c ∈ lineS cs (clAt cs j).name := fun c hc => by
  rw [lineS_step h (cl_self h hj)]; exact List.mem_cons_of_mem _ hc
theorem must_super {cs : List Cl} (h : SoundC cs) {j : Nat} (hj : j < cs.length) : ∀ s ∈ mustS cs (clAt cs j).super, s ∈ mustS cs (clAt cs j).name := fun s hs => by
  unfold mustS at hs ⊢
  rw [sortU_mem] at hs ⊢
  obtain ⟨c, hc, hx⟩ := List.mem_flatMap.1 hs
  exact List.mem_flatMap.2 ⟨c, line_super h hj c hc, hx⟩
theorem may_super {cs : List Cl} (h : SoundC cs) {j : Nat} (hj : j < cs.length) : ∀ s ∈ mayS cs (clAt cs j).super, s ∈ mayS cs (clAt cs j).name := fun s hs => by
  unfold mayS at hs ⊢
  rw [sortU_mem] at hs ⊢
  obtain ⟨c, hc, hx⟩ := List.mem_flatMap.1 hs
  exact List.mem_flatMap.2 ⟨c, line_super h hj c hc, hx⟩
theorem lineS_low (cs : List Cl) (n : ByteArray) : lineS cs (lowS n) = lineS cs n := by
  unfold lineS lineG
  rw [clOf_low]
theorem mustS_low (cs : List Cl) (n : ByteArray) : mustS cs (lowS n) = mustS cs n := by unfold mustS; rw [lineS_low]
theorem must_none {cs : List Cl} {n : ByteArray} (h : clOf cs n = none) : mustS cs n = [] := by
  unfold mustS lineS lineG
  rw [h]; rfl
/-! ### names fold to their small letters -/
theorem sqR_free : ∀ (l : List UInt8) (p : Bool), (32 : UInt8) ∉ l → sqR p l = l
  | [], _, _ => rfl
  | c :: l, p, h => by
    have hc : ¬ (c == 32) = true := fun e => h (by have : c = 32 := by simpa using e
                                                   rw [this]; exact List.mem_cons_self)
    unfold sqR
    rw [if_neg (fun k => hc k.1), sqR_free l _ (fun k => h (List.mem_cons_of_mem _ k))]
theorem name_free {s : ByteArray} (h : nameB s = true) : (32 : UInt8) ∉ s.data.toList := fun k => (Nam.name_bytes h _ k).2.2.2 rfl
theorem fold_name {v : ByteArray} (h : nameB (lowS v) = true) : foldS v = lowS v := by
  rw [← foldS_low, foldS_list]
  have hf := name_free h
  have hn : noSp (lowS v).data.toList := ⟨fun c hc e => hf (by rw [← e]; exact List.mem_of_head? hc), fun c hc e => hf (by rw [← e]; exact List.mem_of_getLast? hc)⟩
  have e1 : lowL (lowS v).data.toList = (lowS v).data.toList := by
    have := congrArg (fun x : ByteArray => x.data.toList) (lowS_low v)
    exact this
  have e2 : foldL (lowS v).data.toList = (lowS v).data.toList := by
    unfold foldL
    rw [trimR_id hn, e1, sqR_free _ _ hf]
  rw [e2]
/-! ### a valid entry -/
theorem vld_parts {T : List Ty} {cs : List Cl} {l : List At} (h : vldE T cs l = 0) : fitsB cs l = true := by
  unfold vldE at h
  split at h
  · rename_i k; exact absurd h k
  · split at h
    · rename_i k; exact absurd h k
    · split at h
      · assumption
      · cases h
theorem class_low : lowS classN = classN := by decide +kernel
theorem fits_some {cs : List Cl} {l : List At} (h : fitsB cs l = true) : 0 < (vals l (lowS classN)).length := by
  unfold fitsB at h
  rw [Bool.and_eq_true, Bool.and_eq_true] at h
  obtain ⟨v, hv⟩ := names_mem.1 (memB_iff.1 h.2.1)
  have hm : v ∈ vals l (lowS classN) := vals_mem.2 (by rw [class_low]; exact hv)
  exact List.length_pos_of_mem hm
theorem fits_must {cs : List Cl} {l : List At} (hS : SoundC cs) (h : fitsB cs l = true) {v : ByteArray} (hv : v ∈ vals l (lowS classN)) : ∀ s ∈ mustS cs v, s ∈ names l := by
  unfold fitsB at h
  rw [Bool.and_eq_true] at h
  have h1 := List.all_eq_true.1 h.1 v hv
  unfold askB at h1
  rw [Bool.and_eq_true] at h1
  cases hc : clOf cs v with
  | none => rw [must_none hc]; intro s hs; cases hs
  | some c =>
    obtain ⟨j, hj, e⟩ := mem_cl (clOf_mem hc)
    have hn : nameB (lowS v) = true := by
      rw [← clOf_name hc, Nam.nameB_low, ← e]; exact (hS j hj).1
    intro s hs
    have h2 := List.all_eq_true.1 h1.2 s (by rw [fold_name hn, mustS_low]; exact hs)
    exact memB_iff.1 h2
/-! ### names in upper case -/
theorem low_up (c : UInt8) : lowB (upB c) = lowB c := by
  unfold upB
  split
  · rename_i h
    have e : (c - 32).toNat = c.toNat - 32 := by
      rw [UInt8.toNat_sub]
      have : (32 : UInt8).toNat = 32 := rfl
      have := c.toNat_lt
      omega
    unfold lowB
    rw [if_pos (by omega), if_neg (by omega)]
    simp
  · rfl
theorem lowS_up (s : ByteArray) : lowS (upS s) = lowS s := by
  unfold lowS upS
  show (⟨(lowL (upL s.data.toList)).toArray⟩ : ByteArray) = _
  unfold lowL upL
  rw [List.map_map]
  congr 2
  exact List.map_congr_left fun c _ => low_up c
theorem upS_size (s : ByteArray) : (upS s).size = s.size := by unfold upS; rw [Lib.size_mk, upL_length, ← Lib.size_eq]
theorem nameB_up (s : ByteArray) : nameB (upS s) = nameB s := by rw [← Nam.nameB_low (upS s), lowS_up, Nam.nameB_low]
theorem atD_up {l : List At} {j : Nat} (h : j < l.length) : atD (l.map upA) j = upA (atD l j) := by
  rw [at_get _ j (by simpa using h), at_get l j h, List.getElem_map]
theorem twice_up (l : List At) {j : Nat} (h : j < l.length) : twiceB (l.map upA) j = twiceB l j := by
  rw [← twice_mem, ← twice_mem, atD_up h]
  unfold lowN
  rw [← List.map_take, List.map_map]
  show memB _ (lowS (upS (atD l j).1)) = _
  rw [lowS_up]
  congr 1
  exact List.map_congr_left fun a _ => lowS_up a.1
theorem firstE_same {f g : Nat → Int} : ∀ {n : Nat}, (∀ j, j < n → f j = g j) → firstE f n = firstE g n
  | 0, _ => rfl
  | n + 1, h => by
    unfold firstE
    rw [firstE_same (n := n) (fun j hj => h j (by omega)), h n (by omega)]
theorem chkA_up (l : List At) : chkA (l.map upA) = chkA l := by
  unfold chkA
  rw [List.length_map, firstE_same (g := errA l) (fun j hj => ?_)]
  unfold errA
  rw [twice_up l hj, atD_up hj]
  show (if nameB (upS (atD l j).1) = false then _ else _) = _
  rw [nameB_up]
  rfl
theorem hl_up {l : List At} {n v : ByteArray} : Hl (l.map upA) n v ↔ Hl l n v := by
  unfold Hl
  constructor
  · rintro ⟨a, ha, h1, h2⟩
    obtain ⟨b, hb, rfl⟩ := List.mem_map.1 ha
    exact ⟨b, hb, by rw [← h1]; exact (lowS_up b.1).symm, h2⟩
  · rintro ⟨a, ha, h1, h2⟩
    exact ⟨upA a, List.mem_map.2 ⟨a, ha, rfl⟩, by rw [← h1]; exact lowS_up a.1, h2⟩
theorem vals_up (l : List At) (n : ByteArray) : vals (l.map upA) n = vals l n :=
  asc_ext (vals_asc _ _) (vals_asc _ _) fun x => by rw [vals_mem, vals_mem, hl_up]
theorem names_up (l : List At) : names (l.map upA) = names l := by
  unfold names
  rw [List.filter_map, List.map_map]
  congr 1
  show List.map _ (List.filter (fun a => !(upA a).2.isEmpty) l) = _
  exact List.map_congr_left fun a _ => lowS_up a.1
theorem tyOf_up (T : List Ty) (s : ByteArray) : tyOf T (upS s) = tyOf T s := by rw [← tyOf_low T (upS s), lowS_up, tyOf_low]
theorem vldE_up (T : List Ty) (cs : List Cl) (l : List At) : vldE T cs (l.map upA) = vldE T cs l := by
  have e1 : firstE (fun j => chkAt T (atD (l.map upA) j)) (l.map upA).length = firstE (fun j => chkAt T (atD l j)) l.length := by
    rw [List.length_map]
    refine firstE_same fun j hj => ?_
    rw [atD_up hj]
    unfold chkAt
    show (match tyOf T (upS (atD l j).1) with | none => (6 : Int) | some t => _) = _
    rw [tyOf_up]
    rfl
  have e2 : fitsB cs (l.map upA) = fitsB cs l := by unfold fitsB; rw [vals_up, names_up]
  unfold vldE
  rw [chkA_up, e1, e2]
theorem light_up {l : List At} (h : LightE l) : LightE (l.map upA) :=
  ⟨by rw [List.length_map]; exact h.len, fun a ha => by
    obtain ⟨b, hb, rfl⟩ := List.mem_map.1 ha
    have k := h.each b hb
    exact ⟨by show (upS b.1).size ≤ 300; rw [upS_size]; exact k.nm, k.len, k.each⟩⟩
theorem sound_ok {ts : List Ty} {cs : List Cl} (h : chkS ts cs = 0) : soundT ts cs = ts ∧ soundC ts cs = cs ∧ SoundC cs :=
  ⟨if_pos h, if_pos h, by have := sound_soundC ts cs; rwa [show soundC ts cs = cs from if_pos h] at this⟩
end Go.Proofs.YtclfjdnemafmeaaGreatDoor
end


section
/-
  An entry that a law is given, read out of memory; the state of a law with a schema and an entry. No condition.
-/
set_option maxRecDepth 100000
namespace Go.Proofs.YtclfjdnemafmeaaGreatDoor
open Go.ChangeShapes Go.WideShapes Go.ChangeAt Go.RowKit Go.PlainAid
theorem trod_attrsR {H : Type} {enc : TypeId × Value → H} {W : World} {v : Value} {y : DataW H × List MemPlace} {fuel : Nat}
    (hf : DataW.trod enc Tryz.prog W 0 (fun _ => true) true fuel 46 [v] = some y) (hz : ∀ n ∈ y.1.weights Tryz.prog 46, n ≤ reachBytes) : ∃ ao n cap l, v = .slice ao n cap ∧ AttrsAt W ao n cap l ∧ RA l := by
  rcases Go.Deep.open_slice_pairs Tryz.underlying46 Tryz.underlying64 cells_attr rfl rfl (by kernel_rfl) (by kernel_rfl) hf with ⟨hcs, hx⟩ | ⟨a, len', cap', m, n, V0, V1, D0, D1, P0, P1, hcs, _, hl, hm, hmm, hx, hcell⟩
  · simp only [List.cons.injEq, and_true] at hcs
    exact ⟨none, 0, 0, [], hcs, ⟨rfl, Nat.le_refl _, by unfold maxLen; omega, fun h => absurd h (by omega)⟩, fun a ha => (List.not_mem_nil ha).elim⟩
  · simp only [List.cons.injEq, and_true] at hcs
    subst hcs
    simp only [if_true] at hmm
    rw [hmm] at hcell
    by_cases hn : 0 < len'
    · obtain ⟨b, off, spot⟩ := a
      have h1 := (hcell 0 (by omega)).1
      have hspot : spot = none := by simpa [Addr.add] using World.cell?_spot h1
      subst hspot
      have hb : b < W.heap.size := by
        rw [add_plain] at h1
        exact World.block_lt_of_cell? W _ h1
      have hd : y.1 = .slice ((List.range len').map fun i => .agg [D0 i, D1 i]) ((List.range (m - len')).map fun j => .agg [D0 (len' + j), D1 (len' + j)]) := congrArg Prod.fst hx
      obtain ⟨l, hpl, hps, hq⟩ := choose_attrsR (w := W) (b := b) (off := off) (len := len') (Q := fun a => a.1.size ≤ 140737488355328 ∧ RS a.2) (fun i hi => by
        obtain ⟨c0, c1, t0, t1⟩ := hcell i (by omega)
        rw [add_plain] at c0 c1
        have hw : ∀ n, n ∈ (DataW.agg [D0 i, D1 i]).weights Tryz.prog 64 → n ≤ reachBytes := fun n hn => hz n (by
          rw [hd]
          exact slice_mem Tryz.underlying46 (List.mem_map.2 ⟨i, List.mem_range.2 hi, rfl⟩) hn)
        have hw0 : ∀ n, n ∈ (D0 i).weights Tryz.prog 9 → n ≤ reachBytes := fun n hn => hw n (by
          simp only [DataW.weights, Tryz.underlying64, DataW.weightsEach, List.map_cons, List.map_nil, List.mem_append]
          exact .inl hn)
        have hw1 : ∀ n, n ∈ (D1 i).weights Tryz.prog 36 → n ≤ reachBytes := fun n hn => hw n (by
          simp only [DataW.weights, Tryz.underlying64, DataW.weightsEach, List.map_cons, List.map_nil, List.mem_append]
          exact .inr (.inl hn))
        obtain ⟨s0, e0, ed, _⟩ := DataW.trod_string Tryz.underlying9 t0
        simp only [List.cons.injEq, and_true] at e0
        have ed0 : D0 i = .lit (.string s0.data.toList) := congrArg Prod.fst ed
        obtain ⟨aj, nj, cj, ps, e1, hs, hr⟩ := trod_strsR t1 hw1
        rw [e0] at c0
        rw [e1, ← Nat.add_assoc] at c1
        refine ⟨(s0, ps), ⟨c0, aj, nj, cj, c1, hs⟩, ?_, hr⟩
        rw [ed0] at hw0
        refine reach_le (hw0 _ ?_)
        simp only [DataW.weights, List.mem_singleton]
        exact (str_len s0).symm)
      exact ⟨_, len', cap', l, rfl, ⟨hpl, hl, hm, fun _ => ⟨b, off, rfl, hb, hps⟩⟩, hq⟩
    · exact ⟨_, len', cap', [], rfl, ⟨by simp; omega, hl, hm, fun h => absurd h hn⟩, fun a ha => (List.not_mem_nil ha).elim⟩
theorem open_entryR {H : Type} {enc : TypeId × Value → H} {W : World} {base : Nat} {v : Value} {d : DataW H} {p : List MemPlace} (hval : Value.okWide Tryz.prog W .any base 48 v)
    (h0 : DataW.Trod enc Tryz.prog W 0 (fun _ => true) true 48 v d p) (hz : ∀ n ∈ d.weights Tryz.prog 48, n ≤ reachBytes) :
    ∃ en ao n cap l, v = .agg #[.string en, .slice ao n cap] ∧ en.size ≤ 140737488355328 ∧ AttrsAt W ao n cap l ∧ RA l := by
  obtain ⟨v0, v1, y0, y1, n, rfl, rfl, _, h1, h2⟩ := Go.Joins.open_agg2 Tryz.underlying48 (by kernel_rfl) (by kernel_rfl) hval h0
  simp only [DataW.weights, Tryz.underlying48, DataW.weightsEach, List.map_cons, List.map_nil, List.mem_append] at hz
  obtain ⟨s0, rfl, z0⟩ := trod_strR h1 fun n hn => hz n (.inl hn)
  obtain ⟨ao, m, cap, l, rfl, hl, rl⟩ := trod_attrsR h2 fun n hn => hz n (.inr (.inl hn))
  exact ⟨s0, ao, m, cap, l, rfl, z0, hl, rl⟩
end Go.Proofs.YtclfjdnemafmeaaGreatDoor
end
